/-  -/
import Derived.Test.YtbleojodidbhiaaGreatDoorCoRun
import Derived.Test.YtbleojodidbhiaaGreatDoorBnI
import Derived.Test.YtbleojodidbhiaaGreatDoorBnA
import Derived.Test.YtbleojodidbhiaaGreatDoorBnDay
namespace Go.Proofs.YtbleojodidbhiaaGreatDoor
open Go.RowKit
noncomputable def numb (l:List Ev):List Ev:=(l.filter rtB).mapIdx fun i e=>{ e with id:=(i:Int) + 1 }
theorem numb_len (l:List Ev):(numb l).length≤l.length:=by unfold numb;rw [List.length_mapIdx];exact List.length_filter_le ..
theorem numb_snoc (a:List Ev) (x:Ev):numb (a ++ [x])=if rtB x=true then numb a ++ [{ x with id:=((numb a).length:Int) + 1 }] else numb a:=by
 unfold numb
 rw [List.filter_append]
 by_cases h:rtB x=true
 ·rw [if_pos h,show List.filter rtB [x]=[x] by simp [h],List.mapIdx_append]
  simp
 ·rw [if_neg h,show List.filter rtB [x]=[] by simp [h],List.append_nil]
theorem own_lenN {w:World} {B:Nat} {T:TypeId} {m n:Nat} {v:Value} {xs:List Value} (h:w.ownsRow B T m v n xs):∃ ad cap,v = .slice ad n cap:=by
 rcases h.2 with ⟨rfl,rfl⟩ | ⟨g,cap,cur,rfl,_⟩
 ·exact ⟨none,0,rfl⟩
 ·exact ⟨_,_,rfl⟩
end Go.Proofs.YtbleojodidbhiaaGreatDoor
namespace Go.Proofs.YtbleojodidbhiaaGreatDoor
open Go.RowKit
open Go.Sort hiding Below
theorem stl_pairs (l:List Ev):∃ ps:List EvN,ps.Perm l.zipIdx∧(ps.Pairwise fun x y=>ltP y x=false)∧ps.map (·.1)=stl l:=by
 have hi:=insertionSort_holds (lt:=ltP) swo_P l.zipIdx.toArray 0 l.length (Nat.zero_le _) (by simp)
 have hsz:l.zipIdx.toArray.size=l.length:=by simp
 refine ⟨(insertionSort ltP l.zipIdx.toArray 0 l.length).toList,?_,?_,rfl⟩
 ·have:=permP (d:=l.zipIdx.toArray) (by rw [hsz];exact hi.1)
  simpa using this
 ·exact sortP (by
   have e:(insertionSort ltP l.zipIdx.toArray 0 l.length).size=l.length:=by rw [hi.1.1];exact hsz
   rw [e];exact hi.2)
def rank (p:Ev→Bool) (l:List Ev) (i:Nat):Nat:=((l.take i).filter p).length
theorem rank_mono (p:Ev→Bool) (l:List Ev) {i j:Nat} (h:i≤j):rank p l i≤rank p l j:=by
 unfold rank
 have:(l.take i).Sublist (l.take j):=(List.take_prefix_take_left h).sublist
 exact (this.filter p).length_le
theorem rank_row (p:Ev→Bool) (l:List Ev):(l.zipIdx.filter fun x=>p x.1).map (fun x=>(x.1,rank p l x.2))=(l.filter p).zipIdx:=by
 rw [← List.reverse_reverse l]
 generalize l.reverse=r
 induction r with
 | nil=>rfl
 | cons x r ih=>
  rw [List.reverse_cons]
  generalize r.reverse=a at ih ⊢
  rw [List.zipIdx_append,List.filter_append,List.map_append,List.filter_append,List.zipIdx_append,← ih]
  congr 1
  ·refine List.map_congr_left fun y hy=>?_
   have hm:=(List.mem_filter.1 hy).1
   have hi:y.2 < a.length:=by
    have:=List.mem_zipIdx_iff_getElem?.1 hm
    exact (List.getElem?_eq_some_iff.1 this).1
   unfold rank
   rw [List.take_append_of_le_length (by omega)]
  ·by_cases h:p x=true
   ·simp [h,rank]
   ·simp [h]
theorem stl_filter_all (l:List Ev) (p:Ev→Bool):stl (l.filter p)=(stl l).filter p:=by
 obtain ⟨ps,hp,hs,hm⟩:=stl_pairs l
 have e:=stl_of (l:=l.filter p) (ps:=(ps.filter fun x=>p x.1).map fun x=>(x.1,rank p l x.2)) (by
  rw [← rank_row]
  exact (hp.filter _).map _) (by
  rw [List.pairwise_map]
  refine (hs.sublist List.filter_sublist).imp fun {a b} h=>?_
  rw [← Bool.not_eq_true,ltP_iff] at h ⊢
  intro c
  refine h ?_
  have hr:=@rank_mono p l
  by_cases hab:b.2 < a.2
  ·simp only at c ⊢
   omega
  ·have:=hr (i:=a.2) (j:=b.2) (by omega)
   simp only at c
   omega)
 rw [← e,← hm,List.map_map,List.filter_map]
 rfl
theorem wf_int {i:Int} (h0 : -9223372036854775808≤i) (h1:i≤9223372036854775807):(Lit.int .i64 i).wf=true:=by
 simp [Lit.wf,IntKind.min,IntKind.max,IntKind.signed,IntKind.bits];omega
theorem stl_last (l:List Ev) (e:Ev) (h:∀ y ∈ l,y.day < e.day):stl (l ++ [e])=stl l ++ [e]:=by
 obtain ⟨ps,h1,h2,h3⟩:=stl_pairs l
 have e1:=stl_of (l:=l ++ [e]) (ps:=ps ++ [(e,l.length)]) (by
  rw [List.zipIdx_append]
  simpa using h1.append_right [(e,l.length)]) (by
  rw [List.pairwise_append]
  refine ⟨h2,List.pairwise_singleton ..,fun x hx y hy=>?_⟩
  rw [List.mem_singleton] at hy
  subst hy
  have hx2:=h1.mem_iff.1 hx
  have hx3:x.1 ∈ l:=by
   have:=List.mem_zipIdx_iff_getElem?.1 hx2
   exact List.mem_of_getElem? this
  have:=h x.1 hx3
  rw [← Bool.not_eq_true,ltP_iff]
  simp only
  omega)
 rw [← e1,List.map_append,h3]
 rfl
theorem filter_rt {l:List Ev} (h:∀ e ∈ l,Rt e):l.filter rtB=l:=by
 rw [List.filter_eq_self]
 exact fun e he=>(rtB_iff e).2 (h e he)
theorem ordd_last {l:List Ev} {e:Ev} (h:∀ y ∈ l,Rt y) (he:Rt e) (hd:∀ y ∈ l,y.day < e.day):ordd (l ++ [e])=ordd l ++ [e]:=by
 unfold ordd
 rw [filter_rt h,filter_rt (fun y hy=>by
  rcases List.mem_append.1 hy with a | a
  ·exact h y a
  ·rw [List.mem_singleton] at a;rw [a];exact he),stl_last l e hd]
theorem numb_mem {l:List Ev} {y:Ev} (h:y ∈ numb l):∃ (i:Nat) (x:Ev),x ∈ l∧Rt x∧y={ x with id:=(i:Int) + 1 }∧i < (numb l).length:=by
 unfold numb at h ⊢
 rw [List.mem_mapIdx] at h
 obtain ⟨i,hi,he⟩:=h
 have hm:=List.getElem_mem hi
 rw [List.mem_filter] at hm
 exact ⟨i,_,hm.1,(rtB_iff _).1 hm.2,he.symm,by rw [List.length_mapIdx];exact hi⟩
theorem numb_rt {l:List Ev}:∀ y ∈ numb l,Rt y:=fun y hy=>by
 obtain ⟨i,x,_,hr,rfl,_⟩:=numb_mem hy
 exact hr
theorem numb_w {l:List Ev} (hw:∀ e ∈ l,EvW e) (hl:l.length≤1000):∀ y ∈ numb l,EvW y:=fun y hy=>by
 obtain ⟨i,x,hx,_,rfl,hi⟩:=numb_mem hy
 have:=numb_len l
 have h:=hw x hx
 exact ⟨wf_int (by simp only;omega) (by simp only;omega),h.item,h.kind,h.qty,h.price,h.ofI,h.day⟩
theorem numb_ordd (l:List Ev):ordd (numb l)=stl (numb l):=by unfold ordd;rw [filter_rt numb_rt]
theorem ordd_numb_len (l:List Ev):(ordd (numb l)).length=(numb l).length:=by rw [numb_ordd,stl_len]
theorem do_out {s:Stk} {i q d:Int} {x:ByteArray} (ok:∀ y ∈ s.ys,LayOK y) (hq:q=sumQ s.ys):doE s ⟨i,x,3,q,0,0,d⟩=(⟨[],s.price⟩,⟨i,sumV s.ys,0,0,false⟩):=by
 have hn:=sum_nonneg ok
 have t:=tk_took s.ys q ok (by omega)
 have g:=t.gone (by omega)
 have f:=t.few (by omega)
 have v:=t.val
 rw [g] at v
 simp only [sumV] at v
 unfold doE
 rw [if_neg (by simp),if_neg (by simp),if_pos rfl]
 simp only [g,f.2]
 rw [show (tk s.ys q).2.1=sumV s.ys by omega]
theorem do_none {s:Stk} {i d:Int} {x:ByteArray} (ok:∀ y ∈ s.ys,LayOK y):doE s ⟨i,x,4,0,0,0,d⟩=(⟨[],s.price⟩,⟨i,sumV s.ys,0,0,false⟩):=by
 have hn:=sum_nonneg ok
 have t:=tk_took s.ys (sumQ s.ys) ok hn.1
 have g:=t.gone (Int.le_refl _)
 have v:=t.val
 rw [g] at v
 simp only [sumV] at v
 unfold doE
 rw [if_neg (by simp),if_neg (by simp),if_neg (by simp),if_neg (by simp only;omega)]
 simp only [Int.sub_zero,g]
 rw [show (tk s.ys (sumQ s.ys)).2.1=sumV s.ys by omega]
theorem do_same {s:Stk} {i q d:Int} {x:ByteArray} (hq:q=sumQ s.ys):doE s ⟨i,x,4,q,0,0,d⟩=(s,⟨i,0,0,0,false⟩):=by
 unfold doE
 rw [if_neg (by simp),if_neg (by simp),if_neg (by simp),if_neg (by simp only;omega)]
 simp only [hq,Int.sub_self]
 rw [tk_done _ _ (Or.inl (Int.le_refl _))]
end Go.Proofs.YtbleojodidbhiaaGreatDoor
namespace Go.Proofs.YtbleojodidbhiaaGreatDoor
open Go.RowKit Go.Shelf
theorem stl_sorted (l:List Ev):(stl l).Pairwise fun x y=>ltOf cmpE y x=false:=by
 obtain ⟨ps,_,hs,he⟩:=stl_pairs l
 rw [← he,List.pairwise_map]
 refine hs.imp fun {a b} h=>?_
 unfold ltP at h
 rw [Bool.or_eq_false_iff] at h
 exact h.1
theorem stl_nodup {l:List Ev} (hn:(l.map (·.id)).Nodup):((stl l).map (·.id)).Nodup:=((stl_perm l).map _).nodup_iff.2 hn
theorem stl_filter {l:List Ev} (hn:(l.map (·.id)).Nodup) (p:Ev→Bool):stl (l.filter p)=(stl l).filter p:=by
 refine sorted_one ((stl_perm _).trans ((stl_perm l).filter p).symm) (stl_sorted _) ((stl_sorted l).sublist List.filter_sublist) ?_
 exact stl_nodup (hn.sublist (List.filter_sublist.map _))
theorem stl_same {l l':List Ev} (hp:l'.Perm l) (hn:(l.map (·.id)).Nodup):stl l'=stl l:=by
 refine sorted_one ((stl_perm _).trans (hp.trans (stl_perm l).symm)) (stl_sorted _) (stl_sorted _) ?_
 exact stl_nodup ((hp.map _).nodup_iff.2 hn)
theorem ordd_stl {l:List Ev} (h:∀ e ∈ l,Rt e):ordd l=stl l:=by unfold ordd;rw [filter_rt h]
theorem numb_nodup (l:List Ev):((numb l).map (·.id)).Nodup:=by
 unfold numb
 rw [List.nodup_iff_pairwise_ne,List.pairwise_iff_getElem]
 intro i j hi hj hij
 simp only [List.getElem_map,List.getElem_mapIdx]
 omega
structure Mon where
 n:Int
 f:Fig
 deriving Inhabited
def monC (m:Mon):List Value:=.int .i64 m.n :: figC m.f
theorem monC_len (m:Mon):(monC m).length=6:=rfl
def addM (ms:List Mon) (n:Int) (f:Fig):List Mon:=
 match ms.getLast? with
 | none=>[⟨n,fig0.plus f⟩]
 | some m=>if m.n=n then ms.dropLast ++ [⟨n,m.f.plus f⟩] else ms ++ [⟨n,fig0.plus f⟩]
theorem addM_nil (n:Int) (f:Fig):addM [] n f=[⟨n,fig0.plus f⟩]:=rfl
theorem addM_same (ms:List Mon) (m:Mon) (f:Fig):addM (ms ++ [m]) m.n f=ms ++ [⟨m.n,m.f.plus f⟩]:=by
 unfold addM;simp
theorem addM_other (ms:List Mon) (m:Mon) (n:Int) (f:Fig) (h:m.n ≠ n):addM (ms ++ [m]) n f=ms ++ [m] ++ [⟨n,fig0.plus f⟩]:=by
 unfold addM;simp [h]
def monsA (ms:List Mon):List (Ev × Lin)→List Mon
 | []=>ms
 | p :: ps=>monsA (addM ms (dK p.1.day:Int) (figOf p.1.kind p.2)) ps
theorem monsA_append (ms:List Mon) (a b:List (Ev × Lin)):monsA ms (a ++ b)=monsA (monsA ms a) b:=by
 induction a generalizing ms with
 | nil=>rfl
 | cons p a ih=>exact ih _
noncomputable def mons (l:List Ev):List Mon:=monsA [] ((ordd l).zip (goL stk00 (ordd l)))
def upto (m:Int) (f:Fig):List Mon→Fig
 | []=>f
 | x :: xs=>upto m (if x.n≤m then f.plus x.f else f) xs
theorem upto_append (m:Int) (f:Fig) (a b:List Mon):upto m f (a ++ b)=upto m (upto m f a) b:=by
 induction a generalizing f with
 | nil=>rfl
 | cons p a ih=>exact ih _
theorem upto_ok (m:Int):∀ (l:List Mon) (f:Fig),f.ok→(upto m f l).ok
 | [],_,h=>h
 | x :: xs,f,h=>by
  unfold upto
  refine upto_ok m xs _ ?_
  split
  ·exact plus_ok _ _
  ·exact h
noncomputable def untl (l:List Ev) (m:Int):Fig:=upto m fig0 (mons l)
theorem untl_ok (l:List Ev) (m:Int):(untl l m).ok:=upto_ok m _ _ fig0_ok
structure Asc (ms:List Mon) (hi:Int):Prop where
 row:ms.Pairwise fun a b=>a.n < b.n
 bd:∀ m ∈ ms,0≤m.n∧m.n≤hi
theorem asc_add {ms:List Mon} {hi n:Int} {f:Fig} (h:Asc ms hi) (hn:hi≤n) (h0:0≤n):Asc (addM ms n f) n:=by
 rcases List.eq_nil_or_concat ms with rfl | ⟨a,m,rfl⟩
 ·rw [addM_nil]
  exact ⟨List.pairwise_singleton ..,fun m hm=>by rw [List.mem_singleton] at hm;subst hm;exact ⟨h0,Int.le_refl _⟩⟩
 ·rw [List.concat_eq_append] at h ⊢
  have hm:=h.bd m (by simp)
  have hr:=List.pairwise_append.1 h.row
  by_cases e:m.n=n
  ·subst e
   rw [addM_same]
   refine ⟨List.pairwise_append.2 ⟨hr.1,List.pairwise_singleton ..,fun x hx y hy=>?_⟩,fun x hx=>?_⟩
   ·rw [List.mem_singleton] at hy
    subst hy
    exact hr.2.2 x hx m (by simp)
   ·rcases List.mem_append.1 hx with hx | hx
    ·have:=h.bd x (by simp [hx]);omega
    ·rw [List.mem_singleton] at hx
     subst hx
     exact ⟨h0,Int.le_refl _⟩
  ·rw [addM_other _ _ _ _ e]
   refine ⟨List.pairwise_append.2 ⟨h.row,List.pairwise_singleton ..,fun x hx y hy=>?_⟩,fun x hx=>?_⟩
   ·rw [List.mem_singleton] at hy
    subst hy
    rcases List.mem_append.1 hx with hx | hx
    ·have:=hr.2.2 x hx m (by simp)
     show x.n < n
     omega
    ·rw [List.mem_singleton] at hx
     subst hx
     show x.n < n
     omega
   ·rcases List.mem_append.1 hx with hx | hx
    ·have:=h.bd x hx;omega
    ·rw [List.mem_singleton] at hx
     subst hx
     exact ⟨h0,Int.le_refl _⟩
theorem dk_mono {a b:Int} (h:0≤a) (hab:a≤b):dK a≤dK b:=isDay_mono (is_day a h) (is_day b (by omega)) hab
theorem asc_mons:∀ (ps:List (Ev × Lin)) (ms:List Mon) (d:Int),0≤d→Asc ms (dK d:Int)→(∀ p ∈ ps,d≤p.1.day)→(ps.Pairwise fun p q=>p.1.day≤q.1.day)→∃ d',(d'=d∨∃ p ∈ ps,d'=p.1.day)∧Asc (monsA ms ps) (dK d':Int)
 | [],ms,d,_,h,_,_=>⟨d,Or.inl rfl,h⟩
 | p :: ps,ms,d,h0,h,hd,hp=>by
  have hpd:=hd p (by simp)
  rw [List.pairwise_cons] at hp
  have hk:=dk_mono h0 hpd
  obtain ⟨d',hd',ha⟩:=asc_mons ps (addM ms (dK p.1.day:Int) (figOf p.1.kind p.2)) p.1.day (by omega) (asc_add h (by omega) (by omega)) (fun q hq=>hp.1 q hq) hp.2
  refine ⟨d',Or.inr ?_,ha⟩
  rcases hd' with rfl | ⟨q,hq,rfl⟩
  ·exact ⟨p,by simp,rfl⟩
  ·exact ⟨q,by simp [hq],rfl⟩
theorem day_le {x y:Ev} (h:ltOf cmpE y x=false):x.day≤y.day:=by
 rw [Bool.eq_false_iff] at h
 rw [Ne,lt_cmp] at h
 omega
theorem ordd_sorted (l:List Ev):(ordd l).Pairwise fun x y=>x.day≤y.day:=(stl_sorted _).imp day_le
theorem zip_pw:∀ (a:List Ev) (b:List Lin),(a.Pairwise fun x y=>x.day≤y.day)→(a.zip b).Pairwise fun p q=>p.1.day≤q.1.day
 | [],_,_=>by simp
 | x :: a,[],_=>by simp
 | x :: a,y :: b,h=>by
  rw [List.pairwise_cons] at h
  rw [List.zip_cons_cons,List.pairwise_cons]
  exact ⟨fun q hq=>h.1 q.1 (List.of_mem_zip hq).1,zip_pw a b h.2⟩
theorem mons_asc (l:List Ev):Asc (mons l) 3285:=by
 obtain ⟨d',hd',ha⟩:=asc_mons ((ordd l).zip (goL stk00 (ordd l))) [] 0 (Int.le_refl _) ⟨List.Pairwise.nil,fun m hm=>absurd hm (by simp)⟩ (fun p hp=>((ordd_rt l) p.1 (List.of_mem_zip hp).1).2.1.1) (zip_pw _ _ (ordd_sorted l))
 have hd:0≤d'∧d'≤99999:=by
  rcases hd' with rfl | ⟨p,hp,rfl⟩
  ·omega
  ·exact ((ordd_rt l) p.1 (List.of_mem_zip hp).1).2.1
 have:=dK_le hd.1 hd.2
 refine ⟨ha.row,fun m hm=>?_⟩
 have:=ha.bd m hm
 omega
theorem addM_len (ms:List Mon) (n:Int) (f:Fig):(addM ms n f).length≤ms.length + 1:=by
 rcases List.eq_nil_or_concat ms with rfl | ⟨a,m,rfl⟩
 ·simp [addM_nil]
 ·rw [List.concat_eq_append]
  by_cases e:m.n=n
  ·subst e;rw [addM_same];simp
  ·rw [addM_other _ _ _ _ e];simp
theorem monsA_len:∀ (ps:List (Ev × Lin)) (ms:List Mon),(monsA ms ps).length≤ms.length + ps.length
 | [],ms=>by simp [monsA]
 | p :: ps,ms=>by
  unfold monsA
  have h1:=monsA_len ps (addM ms (dK p.1.day:Int) (figOf p.1.kind p.2))
  have h2:=addM_len ms (dK p.1.day:Int) (figOf p.1.kind p.2)
  rw [List.length_cons]
  omega
theorem mons_len (l:List Ev):(mons l).length≤l.length:=by
 have h1:=monsA_len ((ordd l).zip (goL stk00 (ordd l))) []
 have h2:=ordd_len l
 rw [List.length_zip,goL_len,Nat.min_self,List.length_nil] at h1
 unfold mons
 omega
theorem doE_id (s:Stk) (e:Ev):(doE s e).2.id=e.id:=by
 unfold doE
 split
 ·rfl
 ·split
  ·split <;> rfl
  ·split
   ·rfl
   ·split <;> rfl
theorem goL_id (M:Stks):∀ (es:List Ev) (k:Nat) (hk:k < (goL M es).length) (hk':k < es.length),(goL M es)[k].id=es[k].id
 | e :: es,0,_,_=>doE_id _ e
 | e :: es,k + 1,hk,hk'=>goL_id _ es k (by simpa [goL] using hk) (by simpa using hk')
theorem upto_all:∀ (l:List Mon) (m:Int) (f:Fig),(∀ x ∈ l,x.n≤m)→upto m f l=l.foldl (fun f x=>f.plus x.f) f
 | [],_,_,_=>rfl
 | x :: xs,m,f,h=>by
  unfold upto
  rw [if_pos (h x (by simp)),List.foldl_cons]
  exact upto_all xs m _ fun y hy=>h y (by simp [hy])
end Go.Proofs.YtbleojodidbhiaaGreatDoor
