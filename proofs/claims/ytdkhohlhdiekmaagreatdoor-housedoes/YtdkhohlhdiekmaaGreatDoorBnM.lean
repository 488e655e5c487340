/-  -/
import Derived.Test.YtdkhohlhdiekmaaGreatDoorCoRun
import Derived.Test.YtdkhohlhdiekmaaGreatDoorBnI
import Derived.Test.YtdkhohlhdiekmaaGreatDoorBnA
import Derived.Test.YtdkhohlhdiekmaaGreatDoorBnDay
namespace Go.Proofs.YtdkhohlhdiekmaaGreatDoor
open Go.RowKit
theorem own_lenN {w:World} {B:Nat} {T:TypeId} {m n:Nat} {v:Value} {xs:List Value} (h:w.ownsRow B T m v n xs):∃ ad cap,v = .slice ad n cap:=by
 rcases h.2 with ⟨rfl,rfl⟩ | ⟨g,cap,cur,rfl,_⟩
 ·exact ⟨none,0,rfl⟩
 ·exact ⟨_,_,rfl⟩
end Go.Proofs.YtdkhohlhdiekmaaGreatDoor
namespace Go.Proofs.YtdkhohlhdiekmaaGreatDoor
open Go.RowKit
open Go.Sort hiding Below
theorem stl_pairs (l:List Ev):∃ ps:List EvN,ps.Perm l.zipIdx∧(ps.Pairwise fun x y=>ltP y x=false)∧ps.map (·.1)=stl l:=by
 have hi:=insertionSort_holds (lt:=ltP) swo_P l.zipIdx.toArray 0 l.length (Nat.zero_le _) (by simp)
 have hsz:l.zipIdx.toArray.size=l.length:=by simp
 refine ⟨(insertionSort ltP l.zipIdx.toArray 0 l.length).toList,?_,?_,rfl⟩
 ·have:=permP (d:=l.zipIdx.toArray) (by rw [hsz];exact hi.1)
  simpa using this
 ·exact sortP (by
   have e:(insertionSort ltP l.zipIdx.toArray 0 l.length).size=l.length:=by rw [hi.1.1];exact hsz
   rw [e];exact hi.2)
def rank (p:Ev→Bool) (l:List Ev) (i:Nat):Nat:=((l.take i).filter p).length
theorem rank_mono (p:Ev→Bool) (l:List Ev) {i j:Nat} (h:i≤j):rank p l i≤rank p l j:=by
 unfold rank
 have:(l.take i).Sublist (l.take j):=(List.take_prefix_take_left h).sublist
 exact (this.filter p).length_le
theorem rank_row (p:Ev→Bool) (l:List Ev):(l.zipIdx.filter fun x=>p x.1).map (fun x=>(x.1,rank p l x.2))=(l.filter p).zipIdx:=by
 rw [← List.reverse_reverse l]
 generalize l.reverse=r
 induction r with
 | nil=>rfl
 | cons x r ih=>
  rw [List.reverse_cons]
  generalize r.reverse=a at ih ⊢
  rw [List.zipIdx_append,List.filter_append,List.map_append,List.filter_append,List.zipIdx_append,← ih]
  congr 1
  ·refine List.map_congr_left fun y hy=>?_
   have hm:=(List.mem_filter.1 hy).1
   have hi:y.2 < a.length:=by
    have:=List.mem_zipIdx_iff_getElem?.1 hm
    exact (List.getElem?_eq_some_iff.1 this).1
   unfold rank
   rw [List.take_append_of_le_length (by omega)]
  ·by_cases h:p x=true
   ·simp [h,rank]
   ·simp [h]
theorem stl_filter_all (l:List Ev) (p:Ev→Bool):stl (l.filter p)=(stl l).filter p:=by
 obtain ⟨ps,hp,hs,hm⟩:=stl_pairs l
 have e:=stl_of (l:=l.filter p) (ps:=(ps.filter fun x=>p x.1).map fun x=>(x.1,rank p l x.2)) (by
  rw [← rank_row]
  exact (hp.filter _).map _) (by
  rw [List.pairwise_map]
  refine (hs.sublist List.filter_sublist).imp fun {a b} h=>?_
  rw [← Bool.not_eq_true,ltP_iff] at h ⊢
  intro c
  refine h ?_
  have hr:=@rank_mono p l
  by_cases hab:b.2 < a.2
  ·simp only at c ⊢
   omega
  ·have:=hr (i:=a.2) (j:=b.2) (by omega)
   simp only at c
   omega)
 rw [← e,← hm,List.map_map,List.filter_map]
 rfl
theorem filter_rt {l:List Ev} (h:∀ e ∈ l,Rt e):l.filter rtB=l:=by
 rw [List.filter_eq_self]
 exact fun e he=>(rtB_iff e).2 (h e he)
end Go.Proofs.YtdkhohlhdiekmaaGreatDoor
namespace Go.Proofs.YtdkhohlhdiekmaaGreatDoor
open Go.RowKit Go.Shelf
theorem stl_sorted (l:List Ev):(stl l).Pairwise fun x y=>ltOf cmpE y x=false:=by
 obtain ⟨ps,_,hs,he⟩:=stl_pairs l
 rw [← he,List.pairwise_map]
 refine hs.imp fun {a b} h=>?_
 unfold ltP at h
 rw [Bool.or_eq_false_iff] at h
 exact h.1
theorem ordd_stl {l:List Ev} (h:∀ e ∈ l,Rt e):ordd l=stl l:=by unfold ordd;rw [filter_rt h]
structure Mon where
 n:Int
 f:Fig
 deriving Inhabited
def monC (m:Mon):List Value:=.int .i64 m.n :: figC m.f
theorem monC_len (m:Mon):(monC m).length=6:=rfl
def addM (ms:List Mon) (n:Int) (f:Fig):List Mon:=
 match ms.getLast? with
 | none=>[⟨n,fig0.plus f⟩]
 | some m=>if m.n=n then ms.dropLast ++ [⟨n,m.f.plus f⟩] else ms ++ [⟨n,fig0.plus f⟩]
theorem addM_nil (n:Int) (f:Fig):addM [] n f=[⟨n,fig0.plus f⟩]:=rfl
theorem addM_same (ms:List Mon) (m:Mon) (f:Fig):addM (ms ++ [m]) m.n f=ms ++ [⟨m.n,m.f.plus f⟩]:=by
 unfold addM;simp
theorem addM_other (ms:List Mon) (m:Mon) (n:Int) (f:Fig) (h:m.n ≠ n):addM (ms ++ [m]) n f=ms ++ [m] ++ [⟨n,fig0.plus f⟩]:=by
 unfold addM;simp [h]
def monsA (ms:List Mon):List (Ev × Lin)→List Mon
 | []=>ms
 | p :: ps=>monsA (addM ms (dK p.1.day:Int) (figOf p.1.kind p.2)) ps
theorem monsA_append (ms:List Mon) (a b:List (Ev × Lin)):monsA ms (a ++ b)=monsA (monsA ms a) b:=by
 induction a generalizing ms with
 | nil=>rfl
 | cons p a ih=>exact ih _
noncomputable def mons (l:List Ev):List Mon:=monsA [] ((ordd l).zip (goL stk00 (ordd l)))
def upto (m:Int) (f:Fig):List Mon→Fig
 | []=>f
 | x :: xs=>upto m (if x.n≤m then f.plus x.f else f) xs
theorem upto_append (m:Int) (f:Fig) (a b:List Mon):upto m f (a ++ b)=upto m (upto m f a) b:=by
 induction a generalizing f with
 | nil=>rfl
 | cons p a ih=>exact ih _
theorem upto_ok (m:Int):∀ (l:List Mon) (f:Fig),f.ok→(upto m f l).ok
 | [],_,h=>h
 | x :: xs,f,h=>by
  unfold upto
  refine upto_ok m xs _ ?_
  split
  ·exact plus_ok _ _
  ·exact h
noncomputable def untl (l:List Ev) (m:Int):Fig:=upto m fig0 (mons l)
theorem untl_ok (l:List Ev) (m:Int):(untl l m).ok:=upto_ok m _ _ fig0_ok
structure Asc (ms:List Mon) (hi:Int):Prop where
 row:ms.Pairwise fun a b=>a.n < b.n
 bd:∀ m ∈ ms,0≤m.n∧m.n≤hi
theorem asc_add {ms:List Mon} {hi n:Int} {f:Fig} (h:Asc ms hi) (hn:hi≤n) (h0:0≤n):Asc (addM ms n f) n:=by
 rcases List.eq_nil_or_concat ms with rfl | ⟨a,m,rfl⟩
 ·rw [addM_nil]
  exact ⟨List.pairwise_singleton ..,fun m hm=>by rw [List.mem_singleton] at hm;subst hm;exact ⟨h0,Int.le_refl _⟩⟩
 ·rw [List.concat_eq_append] at h ⊢
  have hm:=h.bd m (by simp)
  have hr:=List.pairwise_append.1 h.row
  by_cases e:m.n=n
  ·subst e
   rw [addM_same]
   refine ⟨List.pairwise_append.2 ⟨hr.1,List.pairwise_singleton ..,fun x hx y hy=>?_⟩,fun x hx=>?_⟩
   ·rw [List.mem_singleton] at hy
    subst hy
    exact hr.2.2 x hx m (by simp)
   ·rcases List.mem_append.1 hx with hx | hx
    ·have:=h.bd x (by simp [hx]);omega
    ·rw [List.mem_singleton] at hx
     subst hx
     exact ⟨h0,Int.le_refl _⟩
  ·rw [addM_other _ _ _ _ e]
   refine ⟨List.pairwise_append.2 ⟨h.row,List.pairwise_singleton ..,fun x hx y hy=>?_⟩,fun x hx=>?_⟩
   ·rw [List.mem_singleton] at hy
    subst hy
    rcases List.mem_append.1 hx with hx | hx
    ·have:=hr.2.2 x hx m (by simp)
     show x.n < n
     omega
    ·rw [List.mem_singleton] at hx
     subst hx
     show x.n < n
     omega
   ·rcases List.mem_append.1 hx with hx | hx
    ·have:=h.bd x hx;omega
    ·rw [List.mem_singleton] at hx
     subst hx
     exact ⟨h0,Int.le_refl _⟩
theorem dk_mono {a b:Int} (h:0≤a) (hab:a≤b):dK a≤dK b:=isDay_mono (is_day a h) (is_day b (by omega)) hab
theorem asc_mons:∀ (ps:List (Ev × Lin)) (ms:List Mon) (d:Int),0≤d→Asc ms (dK d:Int)→(∀ p ∈ ps,d≤p.1.day)→(ps.Pairwise fun p q=>p.1.day≤q.1.day)→∃ d',(d'=d∨∃ p ∈ ps,d'=p.1.day)∧Asc (monsA ms ps) (dK d':Int)
 | [],ms,d,_,h,_,_=>⟨d,Or.inl rfl,h⟩
 | p :: ps,ms,d,h0,h,hd,hp=>by
  have hpd:=hd p (by simp)
  rw [List.pairwise_cons] at hp
  have hk:=dk_mono h0 hpd
  obtain ⟨d',hd',ha⟩:=asc_mons ps (addM ms (dK p.1.day:Int) (figOf p.1.kind p.2)) p.1.day (by omega) (asc_add h (by omega) (by omega)) (fun q hq=>hp.1 q hq) hp.2
  refine ⟨d',Or.inr ?_,ha⟩
  rcases hd' with rfl | ⟨q,hq,rfl⟩
  ·exact ⟨p,by simp,rfl⟩
  ·exact ⟨q,by simp [hq],rfl⟩
theorem day_le {x y:Ev} (h:ltOf cmpE y x=false):x.day≤y.day:=by
 rw [Bool.eq_false_iff] at h
 rw [Ne,lt_cmp] at h
 omega
theorem ordd_sorted (l:List Ev):(ordd l).Pairwise fun x y=>x.day≤y.day:=(stl_sorted _).imp day_le
theorem zip_pw:∀ (a:List Ev) (b:List Lin),(a.Pairwise fun x y=>x.day≤y.day)→(a.zip b).Pairwise fun p q=>p.1.day≤q.1.day
 | [],_,_=>by simp
 | x :: a,[],_=>by simp
 | x :: a,y :: b,h=>by
  rw [List.pairwise_cons] at h
  rw [List.zip_cons_cons,List.pairwise_cons]
  exact ⟨fun q hq=>h.1 q.1 (List.of_mem_zip hq).1,zip_pw a b h.2⟩
theorem mons_asc (l:List Ev):Asc (mons l) 3285:=by
 obtain ⟨d',hd',ha⟩:=asc_mons ((ordd l).zip (goL stk00 (ordd l))) [] 0 (Int.le_refl _) ⟨List.Pairwise.nil,fun m hm=>absurd hm (by simp)⟩ (fun p hp=>((ordd_rt l) p.1 (List.of_mem_zip hp).1).2.1.1) (zip_pw _ _ (ordd_sorted l))
 have hd:0≤d'∧d'≤99999:=by
  rcases hd' with rfl | ⟨p,hp,rfl⟩
  ·omega
  ·exact ((ordd_rt l) p.1 (List.of_mem_zip hp).1).2.1
 have:=dK_le hd.1 hd.2
 refine ⟨ha.row,fun m hm=>?_⟩
 have:=ha.bd m hm
 omega
theorem addM_len (ms:List Mon) (n:Int) (f:Fig):(addM ms n f).length≤ms.length + 1:=by
 rcases List.eq_nil_or_concat ms with rfl | ⟨a,m,rfl⟩
 ·simp [addM_nil]
 ·rw [List.concat_eq_append]
  by_cases e:m.n=n
  ·subst e;rw [addM_same];simp
  ·rw [addM_other _ _ _ _ e];simp
theorem monsA_len:∀ (ps:List (Ev × Lin)) (ms:List Mon),(monsA ms ps).length≤ms.length + ps.length
 | [],ms=>by simp [monsA]
 | p :: ps,ms=>by
  unfold monsA
  have h1:=monsA_len ps (addM ms (dK p.1.day:Int) (figOf p.1.kind p.2))
  have h2:=addM_len ms (dK p.1.day:Int) (figOf p.1.kind p.2)
  rw [List.length_cons]
  omega
theorem mons_len (l:List Ev):(mons l).length≤l.length:=by
 have h1:=monsA_len ((ordd l).zip (goL stk00 (ordd l))) []
 have h2:=ordd_len l
 rw [List.length_zip,goL_len,Nat.min_self,List.length_nil] at h1
 unfold mons
 omega
theorem doE_id (s:Stk) (e:Ev):(doE s e).2.id=e.id:=by
 unfold doE
 split
 ·rfl
 ·split
  ·split <;> rfl
  ·split
   ·rfl
   ·split <;> rfl
theorem goL_id (M:Stks):∀ (es:List Ev) (k:Nat) (hk:k < (goL M es).length) (hk':k < es.length),(goL M es)[k].id=es[k].id
 | e :: es,0,_,_=>doE_id _ e
 | e :: es,k + 1,hk,hk'=>goL_id _ es k (by simpa [goL] using hk) (by simpa using hk')
def fAt (m:Int):List Mon→Fig
 | []=>fig0
 | x :: xs=>if x.n=m then x.f else fAt m xs
def inM (m:Int) (ms:List Mon):Prop:=∃ x ∈ ms,x.n=m
theorem fAt_none {m:Int}:∀ {a:List Mon},(∀ x ∈ a,x.n ≠ m)→fAt m a=fig0
 | [],_=>rfl
 | x :: a,h=>by
  unfold fAt
  rw [if_neg (h x List.mem_cons_self)]
  exact fAt_none fun y hy=>h y (List.mem_cons_of_mem _ hy)
theorem fAt_app {m:Int} {b:List Mon}:∀ {a:List Mon},(∀ x ∈ a,x.n ≠ m)→fAt m (a ++ b)=fAt m b
 | [],_=>rfl
 | x :: a,h=>by
  rw [List.cons_append,fAt,if_neg (h x List.mem_cons_self)]
  exact fAt_app fun y hy=>h y (List.mem_cons_of_mem _ hy)
theorem fAt_last {m:Int} {y z:Mon} (hy:y.n ≠ m) (hz:z.n ≠ m):∀ a:List Mon,fAt m (a ++ [y])=fAt m (a ++ [z])
 | []=>by simp [fAt,hy,hz]
 | x :: a=>by
  rw [List.cons_append,List.cons_append,fAt,fAt,fAt_last hy hz a]
theorem fAt_drop {m:Int} {z:Mon} (hz:z.n ≠ m):∀ a:List Mon,fAt m (a ++ [z])=fAt m a
 | []=>by simp [fAt,hz]
 | x :: a=>by
  rw [List.cons_append,fAt,fAt,fAt_drop hz a]
theorem fAt_add {ms:List Mon} {hi N:Int} (h:Asc ms hi) (hN:hi≤N) (f:Fig) (x:Int):fAt x (addM ms N f)=if x=N then (fAt N ms).plus f else fAt x ms:=by
 rcases List.eq_nil_or_concat ms with rfl | ⟨a,m,rfl⟩
 ·rw [addM_nil]
  unfold fAt
  by_cases e:x=N
  ·subst e;simp
  ·have e':¬ N=x:=fun c=>e c.symm
   simp [e,e',fAt]
 ·rw [List.concat_eq_append] at h ⊢
  have hr:=List.pairwise_append.1 h.row
  have hm:=h.bd m (by simp)
  have hlt:∀ y ∈ a,y.n < m.n:=fun y hy=>hr.2.2 y hy m (by simp)
  by_cases e:m.n=N
  ·subst e
   rw [addM_same]
   have hno:∀ y ∈ a,y.n ≠ m.n:=fun y hy c=>by have:=hlt y hy;omega
   by_cases ex:x=m.n
   ·subst ex
    rw [if_pos rfl,fAt_app hno,fAt_app hno]
    simp [fAt]
   ·rw [if_neg ex]
    exact fAt_last (y:=⟨m.n,m.f.plus f⟩) (fun c=>ex c.symm) (fun c=>ex c.symm) a
  ·rw [addM_other _ _ _ _ e]
   have hno:∀ y ∈ a ++ [m],y.n ≠ N:=fun y hy c=>by
    rcases List.mem_append.1 hy with hy | hy
    ·have:=hlt y hy;omega
    ·rw [List.mem_singleton] at hy;subst hy;exact e c
   by_cases ex:x=N
   ·subst ex
    rw [if_pos rfl,fAt_app hno,fAt_none hno]
    simp [fAt]
   ·rw [if_neg ex,fAt_drop (fun c=>ex c.symm)]
theorem inM_add {ms:List Mon} (N:Int) (f:Fig) (x:Int):inM x (addM ms N f) ↔ (x=N∨inM x ms):=by
 unfold inM
 rcases List.eq_nil_or_concat ms with rfl | ⟨a,m,rfl⟩
 ·rw [addM_nil];simp [eq_comm]
 ·rw [List.concat_eq_append]
  by_cases e:m.n=N
  ·subst e
   rw [addM_same]
   constructor
   ·rintro ⟨y,hy,rfl⟩
    rcases List.mem_append.1 hy with hy | hy
    ·exact Or.inr ⟨y,by simp [hy],rfl⟩
    ·rw [List.mem_singleton] at hy;subst hy;exact Or.inl rfl
   ·rintro (rfl | ⟨y,hy,rfl⟩)
    ·exact ⟨⟨m.n,m.f.plus f⟩,by simp,rfl⟩
    ·rcases List.mem_append.1 hy with hy | hy
     ·exact ⟨y,by simp [hy],rfl⟩
     ·rw [List.mem_singleton] at hy;subst hy;exact ⟨⟨y.n,y.f.plus f⟩,by simp,rfl⟩
  ·rw [addM_other _ _ _ _ e]
   constructor
   ·rintro ⟨y,hy,rfl⟩
    rcases List.mem_append.1 hy with hy | hy
    ·exact Or.inr ⟨y,hy,rfl⟩
    ·rw [List.mem_singleton] at hy;subst hy;exact Or.inl rfl
   ·rintro (rfl | ⟨y,hy,rfl⟩)
    ·exact ⟨⟨x,fig0.plus f⟩,by simp,rfl⟩
    ·exact ⟨y,by rw [List.mem_append];exact Or.inl hy,rfl⟩
theorem fAt_mem:∀ {ms:List Mon},(ms.Pairwise fun a b=>a.n < b.n)→∀ {x:Mon},x ∈ ms→fAt x.n ms=x.f
 | [],_,_,h=>by cases h
 | y :: ms,hp,x,h=>by
  rw [List.pairwise_cons] at hp
  rcases List.mem_cons.1 h with rfl | h
  ·simp [fAt]
  ·have:=hp.1 x h
   rw [fAt,if_neg (by omega),fAt_mem hp.2 h]
theorem plus_swap (f a b:Fig):(f.plus a).plus b=(f.plus b).plus a:=by
 unfold Fig.plus
 have h:∀ x y z:Int,wrap64 (wrap64 (x + y) + z)=wrap64 (wrap64 (x + z) + y):=fun x y z=>by unfold wrap64;omega
 simp only [h f.inn a.inn,h f.out a.out,h f.loss a.loss,h f.gain a.gain,h f.late a.late]
theorem upto_perm (m:Int) {a b:List Mon} (h:a.Perm b):∀ f,upto m f a=upto m f b:=by
 induction h with
 | nil=>intro f;rfl
 | cons x _ ih=>intro f;unfold upto;exact ih _
 | swap x y l=>
  intro f
  unfold upto
  unfold upto
  congr 1
  by_cases h1:x.n≤m <;> by_cases h2:y.n≤m <;> simp only [h1,h2,if_true,if_false]
  exact plus_swap f y.f x.f
 | trans _ _ ih1 ih2=>intro f;rw [ih1,ih2]
theorem perm_of {ms:List Mon} {hi:Int} (h:Asc ms hi) {S:List Int} (hS:S.Nodup) (hm:∀ x,x ∈ S ↔ inM x ms):(S.map fun x=>(⟨x,fAt x ms⟩:Mon)).Perm ms:=by
 have hnd:ms.Nodup:=h.row.imp fun {a b} hab e=>by subst e;exact absurd hab (Int.lt_irrefl _)
 have hnd2:(S.map fun x=>(⟨x,fAt x ms⟩:Mon)).Nodup:=List.pairwise_map.2 (hS.imp fun hne e=>hne (congrArg Mon.n e))
 refine (List.perm_ext_iff_of_nodup hnd2 hnd).2 fun y=>?_
 rw [List.mem_map]
 constructor
 ·rintro ⟨x,hx,rfl⟩
  obtain ⟨z,hz,rfl⟩:=(hm x).1 hx
  rw [fAt_mem h.row hz]
  exact hz
 ·intro hy
  exact ⟨y.n,(hm y.n).2 ⟨y,hy,rfl⟩,by rw [fAt_mem h.row hy]⟩
theorem unp_minus:∀ (cs:List Cl) (f g:Fig),unp (f.minus g) cs=f.minus (sumC g cs)
 | [],_,_=>rfl
 | c :: cs,f,g=>by
  unfold unp sumC
  have e:(f.minus g).minus c.posted=f.minus (g.plus c.posted):=by
   have h:∀ x y z:Int,wrap64 (wrap64 (x - y) - z)=wrap64 (x - wrap64 (y + z)):=fun x y z=>by unfold wrap64;omega
   unfold Fig.minus Fig.plus
   simp only [h]
  rw [e,unp_minus cs]
theorem minus_zero {f:Fig} (h:f.ok):f.minus fig0=f:=by
 obtain ⟨a,b,c,d,e⟩:=f
 obtain ⟨h1,h2,h3,h4,h5⟩:=h
 unfold I64 at h1 h2 h3 h4 h5
 simp only at h1 h2 h3 h4 h5
 unfold Fig.minus fig0
 simp only [Int.sub_zero,Fig.mk.injEq]
 unfold wrap64
 omega
theorem unp_is (cs:List Cl) {f:Fig} (h:f.ok):unp f cs=f.minus (sumC fig0 cs):=by
 have:=unp_minus cs f fig0
 rw [minus_zero h] at this
 exact this
end Go.Proofs.YtdkhohlhdiekmaaGreatDoor
