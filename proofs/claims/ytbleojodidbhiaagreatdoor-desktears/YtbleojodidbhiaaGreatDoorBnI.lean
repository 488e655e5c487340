/-  -/
import Derived.Test.YtbleojodidbhiaaGreatDoorBnD
import Derived.Test.YtbleojodidbhiaaGreatDoorBnEi
import Derived.Sort.LotA
import Derived.Sort.Lot0
import Derived.Test.YtbleojodidbhiaaGreatDoorBnA
namespace Go.Proofs.YtbleojodidbhiaaGreatDoor
open Go.RowKit
open Go.Sort hiding Below
open Go.Shelf Go.Lib
theorem getElem!_of {α:Type} [Inhabited α] {l:List α} {k:Nat} {x:α} (h:l[k]?=some x):l[k]! = x:=by
 obtain ⟨hk,he⟩:=List.getElem?_eq_some_iff.1 h
 rw [getElem!_pos l k hk,he]
theorem flatK_is {α:Type} [Inhabited α] (f:α→List Value) (m:Nat) (hf:∀ x,(f x).length=m) (l:List α):flatK f m l.toArray=(l.flatMap f).toArray:=by
 refine ext_get! (by simp [flat_len f m hf]) fun t ht=>?_
 have ht':t < l.length * m:=by simpa using ht
 have m0:0 < m:=by
  rcases Nat.eq_zero_or_pos m with h | h
  ·subst h;simp at ht'
  ·exact h
 have hk:t / m < l.length:=Nat.div_lt_of_lt_mul (by rw [Nat.mul_comm];exact ht')
 have hj:t % m < m:=Nat.mod_lt _ m0
 rw [get_flatK _ _ _ _ (by simpa using ht')]
 have e:t=t / m * m + t % m:=by rw [Nat.mul_comm];exact (Nat.div_add_mod t m).symm
 have hg:=flat_get f m hf l (t / m) (t % m) hk hj
 rw [← e] at hg
 have hx:(f l[t / m])[t % m]?=some (f l[t / m])[t % m]!:=by
  rw [List.getElem?_eq_getElem (by rw [hf];exact hj),getElem!_pos _ _ (by rw [hf];exact hj)]
 rw [hx] at hg
 have h1:(l.flatMap f).toArray[t]! = (l.flatMap f)[t]!:=by
  rw [getElem!_pos _ _ (by simpa [flat_len f m hf] using ht'),getElem!_pos _ _ (by simpa [flat_len f m hf] using ht')];rfl
 rw [h1,getElem!_of hg]
 congr 1
 have h2:l.toArray[t / m]! = l[t / m]:=by rw [getElem!_pos _ _ (by simpa using hk)];rfl
 rw [h2]
theorem own_flat {w:World} {B:Nat} {T:TypeId} {m g n cap:Nat} {xs:List Value} (h:w.ownsRow B T m (.slice (some ⟨g,0,none⟩) n cap) n xs) (j:Nat) (hj:j < xs.length) :
  w.cell? ⟨g,j,none⟩=some xs[j]∧w.frozen? ⟨g,j,none⟩=false:=by
 rcases h.2 with ⟨hv,_⟩ | ⟨g',cap',cur,hv,_,hg,hn,_,hs,ht⟩
 ·cases hv
 ·cases hv
  have hc:cur[j]?=xs[j]?:=by rw [← ht,List.getElem?_take_of_lt (by rw [← h.1];exact hj),Array.getElem?_toList]
  refine ⟨?_,by simp [World.frozen?,hg]⟩
  simp only [World.cell?,hg]
  rw [show (Option.isSome (none:Option _))=false from rfl]
  simp only [Bool.false_eq_true,if_false]
  rw [hc,List.getElem?_eq_getElem hj]
theorem holdsK_of_own {α:Type} [Inhabited α] {w:World} {B:Nat} {T:TypeId} {m g n cap:Nat} {f:α→List Value} {l:List α} (hf:∀ x,(f x).length=m) (h:w.ownsRow B T m (.slice (some ⟨g,0,none⟩) n cap) n (l.flatMap f)) :
  HoldsK f m w g 0 l.toArray:=by
 unfold HoldsK
 rw [flatK_is f m hf]
 intro j hj
 have hj':j < (l.flatMap f).length:=by simpa using hj
 rw [Nat.zero_add]
 obtain ⟨h1,h2⟩:=own_flat h j hj'
 refine ⟨?_,h2⟩
 rw [h1,getElem!_pos (l.flatMap f).toArray j hj]
 rfl
theorem own_sorted {α:Type} [Inhabited α] {w:World} {B:Nat} {T:TypeId} {m g n cap q:Nat} {os:Array Obj} {f:α→List Value} {l l':List α} (hf:∀ x,(f x).length=m) (h:w.ownsRow B T m (.slice (some ⟨g,0,none⟩) n cap) n (l.flatMap f)) (hl:l'.length=l.length) :
  (sortWorldK f m w g 0 q l'.toArray os).ownsRow B T m (.slice (some ⟨g,0,none⟩) n cap) n (l'.flatMap f):=by
 have hlen:(l'.flatMap f).length=(l.flatMap f).length:=by rw [flat_len f m hf,flat_len f m hf,hl]
 refine ⟨by rw [hlen];exact h.1,?_⟩
 rcases h.2 with ⟨hv,_⟩ | ⟨g',cap',cur,hv,hB,hg,hn,hm,hs,ht⟩
 ·cases hv
 ·cases hv
  have hgl:g < w.heap.size:=(Array.getElem?_eq_some_iff.1 hg).1
  refine Or.inr ⟨g,cap,putCells id 0 (l'.flatMap f).toArray cur,rfl,hB,?_,hn,hm,by simpa [putCells] using hs,?_⟩
  ·unfold sortWorldK putRowK
   rw [flatK_is f m hf,heap_grow_old _ _ (by simpa using hgl)]
   simp [putRow,mapBlock,Sort.ahead,Array.getElem?_modify,hg,onCells]
  ·apply List.ext_getElem?
   intro j
   have hnm:n * m=(l'.flatMap f).length:=by rw [hlen];exact h.1.symm
   have hcs:n * m≤cur.size:=by rw [hs];exact Nat.mul_le_mul_right _ hn
   by_cases hj:j < n * m
   ·rw [List.getElem?_take_of_lt hj,Array.getElem?_toList]
    have hjc:j < cur.size:=by omega
    have hj3:j < (l'.flatMap f).length:=by omega
    simp only [putCells,Array.getElem?_mapIdx,Array.getElem?_eq_getElem hjc,Option.map_some]
    rw [if_pos (by simp only [List.size_toArray];omega),Nat.sub_zero,getElem!_pos _ _ (by simpa using hj3),List.getElem?_eq_getElem hj3]
    rfl
   ·rw [List.getElem?_take_eq_none (by omega),List.getElem?_eq_none (by omega)]
theorem grown_sorted {α:Type} [Inhabited α] {w:World} {m g q:Nat} {os:Array Obj} {f:α→List Value} (d:Array α):w.grownBy (sortWorldK f m w g 0 q d os) (some g):=by
 unfold sortWorldK putRowK
 refine ⟨rfl,rfl,rfl,by simp,fun k hk hne=>?_⟩
 rw [heap_grow_old _ _ (by simpa using hk)]
 have:g ≠ k:=fun e=>hne (by rw [e])
 simp [putRow,mapBlock,Sort.ahead,Array.getElem?_modify,this]
theorem lt_cmp (x y:Ev):ltOf cmpE x y=true ↔ x.day < y.day∨(x.day=y.day∧(x.kind < y.kind∨(x.kind=y.kind∧x.id < y.id))):=by
 unfold ltOf cmpE orI cmpI
 rw [decide_eq_true_iff]
 repeat' split
 all_goals omega
theorem swo_cmp:SWO (ltOf cmpE) where
 irrefl x:=by
  rw [← Bool.not_eq_true,lt_cmp];omega
 trans x y z h1 h2:=by rw [lt_cmp] at *;omega
 ntrans x y z h1 h2:=by rw [← Bool.not_eq_true,lt_cmp] at *;omega
theorem id_inj:∀ {l:List Ev},(l.map (·.id)).Nodup→∀ x y,x ∈ l→y ∈ l→x.id=y.id→x=y
 | [],_,x,_,hx,_,_=>by cases hx
 | z :: l,hn,x,y,hx,hy,e=>by
  rw [List.map_cons,List.nodup_cons] at hn
  rcases List.mem_cons.1 hx with e1 | h1
  ·rcases List.mem_cons.1 hy with e2 | h2
   ·rw [e1,e2]
   ·exact absurd (show z.id ∈ l.map (·.id) from List.mem_map.2 ⟨y,h2,by rw [← e,e1]⟩) hn.1
  ·rcases List.mem_cons.1 hy with e2 | h2
   ·exact absurd (show z.id ∈ l.map (·.id) from List.mem_map.2 ⟨x,h1,by rw [e,e2]⟩) hn.1
   ·exact id_inj hn.2 x y h1 h2 e
theorem sorted_one {l l':List Ev} (hp:l.Perm l') (hs:l.Pairwise fun x y=>ltOf cmpE y x=false) (hs':l'.Pairwise fun x y=>ltOf cmpE y x=false) (hn:(l.map (·.id)).Nodup):l=l':=by
 have key:∀ x y,x ∈ l→y ∈ l→ltOf cmpE y x=false→ltOf cmpE x y=false→x=y:=by
  intro x y hx hy h1 h2
  have e:x.id=y.id:=by
   have a1:¬ ltOf cmpE y x=true:=by rw [h1];exact Bool.false_ne_true
   have a2:¬ ltOf cmpE x y=true:=by rw [h2];exact Bool.false_ne_true
   rw [lt_cmp] at a1 a2
   omega
  exact id_inj hn x y hx hy e
 exact List.Perm.eq_of_pairwise (le:=fun x y=>ltOf cmpE y x=false) (fun x y hx hy h1 h2=>key x y hx (hp.mem_iff.2 hy) h1 h2) hs hs' hp
def ltA (x y:Ev):Bool:=ltOf cmpE x y
abbrev EvN:Type:=Ev × Nat
def ltP (p r:EvN):Bool:=ltA p.1 r.1 || (!ltA r.1 p.1 && decide (p.2 < r.2))
theorem ltP_iff (p r:EvN):ltP p r=true ↔ p.1.day < r.1.day∨(p.1.day=r.1.day∧(p.1.kind < r.1.kind∨(p.1.kind=r.1.kind∧(p.1.id < r.1.id∨(p.1.id=r.1.id∧p.2 < r.2))))):=by
 have h1:=lt_cmp p.1 r.1
 have h2:=lt_cmp r.1 p.1
 unfold ltP ltA
 simp only [Bool.or_eq_true,Bool.and_eq_true,Bool.not_eq_true',decide_eq_true_eq]
 rw [← Bool.not_eq_true,h1,h2]
 omega
theorem swo_P:SWO ltP where
 irrefl x:=by rw [← Bool.not_eq_true,ltP_iff];omega
 trans x y z h1 h2:=by rw [ltP_iff] at *;omega
 ntrans x y z h1 h2:=by rw [← Bool.not_eq_true,ltP_iff] at *;omega
def stl (l:List Ev):List Ev:=(insertionSort ltP l.zipIdx.toArray 0 l.length).toList.map (·.1)
theorem permP {d d':Array EvN} (h:PermIn 0 d.size d d'):d'.toList.Perm d.toList:=by
 have h2:=h.2.2
 have hs:=h.1
 rw [Array.toList_extract,Array.toList_extract] at h2
 simp only [List.extract_eq_take_drop] at h2
 simpa [List.take_of_length_le (show d'.toList.length≤d.size by simp [hs]),List.take_of_length_le (show d.toList.length≤d.size by simp)] using h2
theorem sortP {d:Array EvN} (h:SortedIn ltP 0 d.size d):d.toList.Pairwise fun x y=>ltP y x=false:=by
 rw [List.pairwise_iff_getElem]
 intro i j hi hj hij
 have hi':i < d.size:=by simpa using hi
 have hj':j < d.size:=by simpa using hj
 have h2:=h i j (Nat.zero_le _) hij hj'
 rw [getElem!_pos d i hi',getElem!_pos d j hj'] at h2
 simp only [Array.getElem_toList]
 exact h2
theorem zip_inj {l:List Ev} {p r:EvN} (hp:p ∈ l.zipIdx) (hr:r ∈ l.zipIdx) (e:p.2=r.2):p=r:=by
 have h1:=List.mem_zipIdx_iff_getElem?.1 hp
 have h2:=List.mem_zipIdx_iff_getElem?.1 hr
 rw [e,h2] at h1
 exact Prod.ext (Option.some.inj h1).symm e
theorem stl_of {l:List Ev} {ps:List EvN} (hp:ps.Perm l.zipIdx) (hs:ps.Pairwise fun x y=>ltP y x=false):ps.map (·.1)=stl l:=by
 have hi:=insertionSort_holds (lt:=ltP) swo_P l.zipIdx.toArray 0 l.length (Nat.zero_le _) (by simp)
 have hsz:l.zipIdx.toArray.size=l.length:=by simp
 have h1:(insertionSort ltP l.zipIdx.toArray 0 l.length).toList.Perm l.zipIdx:=by
  have:=permP (d:=l.zipIdx.toArray) (by rw [hsz];exact hi.1)
  simpa using this
 have h2:(insertionSort ltP l.zipIdx.toArray 0 l.length).toList.Pairwise fun x y=>ltP y x=false:=sortP (by
  have e:(insertionSort ltP l.zipIdx.toArray 0 l.length).size=l.length:=by rw [hi.1.1];exact hsz
  rw [e];exact hi.2)
 unfold stl
 congr 1
 refine List.Perm.eq_of_pairwise (le:=fun x y=>ltP y x=false) (fun x y hx hy a1 a2=>?_) hs h2 (hp.trans h1.symm)
 refine zip_inj (hp.mem_iff.1 hx) (h1.mem_iff.1 hy) ?_
 rw [← Bool.not_eq_true,ltP_iff] at a1 a2
 omega
theorem map_get (d:Array EvN) (i:Nat):(d.map (·.1))[i]! = d[i]!.1:=by
 by_cases h:i < d.size
 ·rw [getElem!_pos _ _ (by simpa using h),getElem!_pos d i h];simp
 ·rw [getElem!_neg _ _ (by simpa using h),getElem!_neg d i h];rfl
theorem map_swp (d:Array EvN) (i j:Nat):(swp d i j).map (·.1)=swp (d.map (·.1)) i j:=by
 unfold swp
 simp only [map_get]
 simp
theorem less_P {p r:EvN} (h:r.2 < p.2):ltP p r=ltA p.1 r.1:=by
 unfold ltP
 rw [show decide (p.2 < r.2)=false by simp;omega]
 simp
theorem stl_len (l:List Ev):(stl l).length=l.length:=by
 have hi:=insertionSort_holds (lt:=ltP) swo_P l.zipIdx.toArray 0 l.length (Nat.zero_le _) (by simp)
 unfold stl
 rw [List.length_map,Array.length_toList,hi.1.1]
 simp
theorem stl_perm (l:List Ev):(stl l).Perm l:=by
 have hi:=insertionSort_holds (lt:=ltP) swo_P l.zipIdx.toArray 0 l.length (Nat.zero_le _) (by simp)
 have hsz:l.zipIdx.toArray.size=l.length:=by simp
 have h1:=permP (d:=l.zipIdx.toArray) (by rw [hsz];exact hi.1)
 have h2:=h1.map (·.1)
 unfold stl
 simpa using h2
end Go.Proofs.YtbleojodidbhiaaGreatDoor
namespace Go.Proofs.YtbleojodidbhiaaGreatDoor
open Go.Sort
variable {α:Type} [Inhabited α]
def Swapped (a b n:Nat) (d d':Array α):Prop:=∀ t,d'[t]! = if a≤t∧t < a + n then d[t + (b - a)]! else if b≤t∧t < b + n then d[t - (b - a)]! else d[t]!
theorem swapped_zero (a b:Nat) (d:Array α):Swapped a b 0 d d:=fun t=>by
 rw [if_neg (by omega),if_neg (by omega)]
theorem at_eq (e:Array α) {x y:Nat} (h:x=y):e[x]! = e[y]!:=by rw [h]
theorem swapped_step {a b i:Nat} {d e:Array α} (h:Swapped a b i d e) (hab:a + i < b) (ha:a + i < e.size) (hb:b + i < e.size):Swapped a b (i + 1) d (swp e (a + i) (b + i)):=fun t=>by
 rw [swp_get e ha hb t,h (a + i),h (b + i),h t]
 repeat' split
 all_goals first | (exact at_eq d (by omega)) | (exfalso;omega)
def Turns (m i j:Nat) (R:Nat→α) (e:Array α):Prop:=∀ t,R t=if m - i≤t∧t < m - i + j then e[t + i]! else if m - i + j≤t∧t < m + j then e[t - j]! else e[t]!
theorem turns_left {m i j:Nat} {R:Nat→α} {e e':Array α} (h:Turns m i j R e) (hi:i≤m) (hij:j < i) (hs:Swapped (m - i) m j e e'):Turns m (i - j) j R e':=fun t=>by
 rw [h t,hs (t + (i - j)),hs (t - j),hs t]
 repeat' split
 all_goals first | (exact at_eq e (by omega)) | (exfalso;omega)
theorem turns_right {m i j:Nat} {R:Nat→α} {e e':Array α} (h:Turns m i j R e) (hi:i≤m) (hij:i < j) (hs:Swapped (m - i) (m + j - i) i e e'):Turns m i (j - i) R e':=fun t=>by
 rw [h t,hs (t + i),hs (t - (j - i)),hs t]
 repeat' split
 all_goals first | (exact at_eq e (by omega)) | (exfalso;omega)
theorem turns_end {m i:Nat} {R:Nat→α} {e e':Array α} (h:Turns m i i R e) (hi:i≤m) (hs:Swapped (m - i) m i e e'):∀ t,e'[t]! = R t:=fun t=>by
 rw [h t,hs t]
 repeat' split
 all_goals first | (exact at_eq e (by omega)) | (exfalso;omega)
def Rotated (a m b:Nat) (d d':Array α):Prop:=∀ t,d'[t]! = if a≤t∧t < a + (b - m) then d[t + (m - a)]! else if a + (b - m)≤t∧t < b then d[t - (b - m)]! else d[t]!
theorem turns_start {a m b:Nat} (d:Array α) (h1:a≤m) (h2:m≤b):Turns m (m - a) (b - m) (fun t=>if a≤t∧t < a + (b - m) then d[t + (m - a)]! else if a + (b - m)≤t∧t < b then d[t - (b - m)]! else d[t]!) d:=fun t=>by
 have e1:m - (m - a)=a:=by omega
 have e2:m + (b - m)=b:=by omega
 simp only [e1,e2]
theorem rotated_none_left {m b:Nat} (d:Array α):Rotated m m b d d:=fun t=>by
 repeat' split
 all_goals first | (exact at_eq d (by omega)) | (exfalso;omega)
theorem rotated_none_right {a m:Nat} (d:Array α):Rotated a m m d d:=fun t=>by
 repeat' split
 all_goals first | (exact at_eq d (by omega)) | (exfalso;omega)
section
variable {lt:α→α→Bool}
theorem SortedIn.le (hS:SWO lt) {a b:Nat} {d:Array α} (h:SortedIn lt a b d) {i j:Nat} (h1:a≤i) (h2:i≤j) (h3:j < b):lt d[j]! d[i]! = false:=by
 rcases Nat.lt_or_ge i j with h4 | h4
 ·exact h i j h1 h4 h3
 ·have:i=j:=by omega
  subst this;exact hS.irrefl _
theorem le_trans' {β:Type} {lt:β→β→Bool} (hS:SWO lt) {x y z:β} (h1:lt y x=false) (h2:lt z y=false):lt z x=false:=hS.ntrans _ _ _ h2 h1
theorem SortedIn.mono {a b a' b':Nat} {d:Array α} (h:SortedIn lt a b d) (h1:a≤a') (h2:b'≤b):SortedIn lt a' b' d:=fun i j hi hij hj=>h i j (by omega) hij (by omega)
theorem SortedIn.empty {a b:Nat} (d:Array α) (h:b≤a + 1):SortedIn lt a b d:=fun i j hi hij hj=>by omega
theorem sorted_join {a m b:Nat} {d:Array α} (h1:SortedIn lt a m d) (h2:SortedIn lt m b d) (h3:∀ i j,a≤i→i < m→m≤j→j < b→lt d[j]! d[i]! = false):SortedIn lt a b d:=fun i j hi hij hj=>by
 rcases Nat.lt_or_ge j m with h4 | h4
 ·exact h1 i j hi hij h4
 ·rcases Nat.lt_or_ge i m with h5 | h5
  ·exact h3 i j hi h5 h4 hj
  ·exact h2 i j h5 hij hj
theorem cross_perm {a m b:Nat} {d d':Array α} (hsz:b≤d.size) (hm:m≤b) (h:∀ i j,a≤i→i < m→m≤j→j < b→lt d[j]! d[i]! = false) (hp:PermIn a m d d'):∀ i j,a≤i→i < m→m≤j→j < b→lt d'[j]! d'[i]! = false:=by
 intro i j hi him hj hjb
 rw [hp.2.1 j (Or.inr hj)]
 exact permIn_all d d' a m (fun x=>lt d[j]! x=false) (by omega) hp (fun k hk hkm=>h k j hk hkm hj hjb) i hi him
theorem cross_perm2 {a m b:Nat} {d d':Array α} (hsz:b≤d.size) (h:∀ i j,a≤i→i < m→m≤j→j < b→lt d[j]! d[i]! = false) (hp:PermIn m b d d'):∀ i j,a≤i→i < m→m≤j→j < b→lt d'[j]! d'[i]! = false:=by
 intro i j hi him hj hjb
 rw [hp.2.1 i (Or.inl him)]
 exact permIn_all d d' m b (fun x=>lt x d[i]! = false) hsz hp (fun k hk hkb=>h i k hi him hk hkb) j hj hjb
theorem cross_rot (hS:SWO lt) {a m b s:Nat} {d d':Array α} (h1:SortedIn lt a m d) (h2:SortedIn lt m b d) (mid en:Nat) (hen:en + s=mid + m) (has:a≤s) (hsm:s≤m) (hme:m≤en) (heb:en≤b) (hr:Rotated s m en d d')
  (k1:a < s→en < b→lt d[en]! d[s - 1]! = false) (k2:s < m→m < en→lt d[s]! d[en - 1]! = false):∀ i j,a≤i→i < mid→mid≤j→j < b→lt d'[j]! d'[i]! = false:=by
 intro i j hi him hj hjb
 have es:s + (en - m)=mid:=by omega
 have hri:=hr i
 have hrj:=hr j
 rw [es] at hri hrj
 rw [hri,hrj]
 have x1:∀ x,a≤x→x < s→lt d[s - 1]! d[x]! = false:=fun x hx hxs=>SortedIn.le hS h1 hx (by omega) (by omega)
 by_cases hi1:s≤i∧i < mid
 ·rw [if_pos hi1,if_neg (by omega)]
  by_cases hj1:mid≤j∧j < en
  ·rw [if_pos hj1]
   have y1:lt d[en - 1]! d[i + (m - s)]! = false:=SortedIn.le hS h2 (by omega) (by omega) (by omega)
   have y2:lt d[j - (en - m)]! d[s]! = false:=SortedIn.le hS h1 (by omega) (by omega) (by omega)
   exact le_trans' hS (le_trans' hS y1 (k2 (by omega) (by omega))) y2
  ·rw [if_neg hj1]
   exact SortedIn.le hS h2 (by omega) (by omega) hjb
 ·rw [if_neg hi1,if_neg (show ¬ (mid≤i∧i < en) by omega),if_neg (by omega)]
  by_cases hj1:mid≤j∧j < en
  ·rw [if_pos hj1]
   exact SortedIn.le hS h1 hi (by omega) (by omega)
  ·rw [if_neg hj1]
   have y1:=x1 i hi (by omega)
   have y2:lt d[j]! d[en]! = false:=SortedIn.le hS h2 (by omega) (by omega) hjb
   exact le_trans' hS (le_trans' hS y1 (k1 (by omega) (by omega))) y2
theorem rot_parts {a m b s:Nat} {d d':Array α} (h1:SortedIn lt a m d) (h2:SortedIn lt m b d) (mid en:Nat) (hen:en + s=mid + m) (has:a≤s) (hsm:s≤m) (hme:m≤en) (heb:en≤b) (hr:Rotated s m en d d') :
  SortedIn lt a s d'∧SortedIn lt s mid d'∧SortedIn lt mid en d'∧SortedIn lt en b d':=by
 have es:s + (en - m)=mid:=by omega
 refine ⟨fun i j hi hij hj=>?_,fun i j hi hij hj=>?_,fun i j hi hij hj=>?_,fun i j hi hij hj=>?_⟩
 ·rw [hr i,hr j,if_neg (by omega),if_neg (by omega),if_neg (by omega),if_neg (by omega)]
  exact h1 i j hi hij (by omega)
 ·rw [hr i,hr j,if_pos (by omega),if_pos (by omega)]
  exact h2 _ _ (by omega) (by omega) (by omega)
 ·rw [hr i,hr j,if_neg (by omega),if_pos (by omega),if_neg (by omega),if_pos (by omega)]
  exact h1 _ _ (by omega) (by omega) (by omega)
 ·rw [hr i,hr j,if_neg (by omega),if_neg (by omega),if_neg (by omega),if_neg (by omega)]
  exact h2 i j (by omega) hij hj
end
end Go.Proofs.YtbleojodidbhiaaGreatDoor
namespace Go.Proofs.YtbleojodidbhiaaGreatDoor
open Go.RowKit
open Go.Sort hiding Below
variable {α:Type} [Inhabited α]
section
variable {lt:α→α→Bool} {q:α→α→Prop}
theorem swo_asym {β:Type} {lt:β→β→Bool} (hS:SWO lt) {x y:β} (h:lt x y=true):lt y x=false:=by
 cases hh:lt y x with
 | false=>rfl
 | true=>
  have:=hS.irrefl x
  rw [hS.trans x y x h hh] at this
  cases this
theorem one_right (hS:SWO lt) {a b i:Nat} {d d':Array α} (h2:SortedIn lt (a + 1) b d) (hi:a + 1≤i) (hib:i≤b) (hr:Rotated a (a + 1) i d d') (k1:a + 1 < i→lt d[i - 1]! d[a]! = true) (k2:i < b→lt d[i]! d[a]! = false):SortedIn lt a b d':=by
 have h1:SortedIn lt a (a + 1) d:=SortedIn.empty d (Nat.le_refl _)
 have hc:=cross_rot hS h1 h2 (i - 1) i (by omega) (Nat.le_refl a) (by omega) hi hib hr (fun h=>absurd h (Nat.lt_irrefl a)) (fun _ h=>swo_asym hS (k1 h))
 have hp:=rot_parts h1 h2 (i - 1) i (by omega) (Nat.le_refl a) (by omega) hi hib hr
 refine sorted_join hp.2.1 (sorted_join (m:=i) (SortedIn.empty d' (by omega)) hp.2.2.2 ?_) hc
 intro x y hx hxi hy hyb
 obtain rfl:x=i - 1:=by omega
 rw [hr y,hr (i - 1),if_neg (by omega),if_neg (by omega),if_neg (by omega),if_pos (by omega),at_eq d (show i - 1 - (i - (a + 1))=a by omega)]
 exact le_trans' hS (k2 (by omega)) (SortedIn.le hS h2 hi hy hyb)
theorem one_left (hS:SWO lt) {a m i:Nat} {d d':Array α} (h1:SortedIn lt a m d) (hi:a≤i) (him:i≤m) (hr:Rotated i m (m + 1) d d') (k1:a < i→lt d[m]! d[i - 1]! = false) (k2:i < m→lt d[m]! d[i]! = true):SortedIn lt a (m + 1) d':=by
 have h2:SortedIn lt m (m + 1) d:=SortedIn.empty d (Nat.le_refl _)
 have hc:=cross_rot hS h1 h2 (i + 1) (m + 1) (by omega) hi him (by omega) (Nat.le_refl _) hr (fun _ h=>absurd h (Nat.lt_irrefl _)) (fun h _=>swo_asym hS (k2 h))
 have hp:=rot_parts h1 h2 (i + 1) (m + 1) (by omega) hi him (by omega) (Nat.le_refl _) hr
 refine sorted_join (sorted_join (m:=i) hp.1 (SortedIn.empty d' (by omega)) ?_) hp.2.2.1 hc
 intro x y hx hxi hy hyb
 obtain rfl:y=i:=by omega
 rw [hr y,hr x,if_pos (by omega),if_neg (by omega),if_neg (by omega),at_eq d (show y + (m - y)=m by omega)]
 exact le_trans' hS (SortedIn.le hS h1 hx (show x≤y - 1 by omega) (by omega)) (k1 (by omega))
theorem rot_right_step {a k:Nat} {d e:Array α} (h:Rotated a (a + 1) (k + 1) d e) (hak:a≤k) (hk:k + 1 < e.size):Rotated a (a + 1) (k + 2) d (swp e k (k + 1)):=fun t=>by
 rw [swp_get e (by omega) hk t,h k,h (k + 1),h t]
 repeat' split
 all_goals first | (exact at_eq d (by omega)) | (exfalso;omega)
theorem rot_left_step {k m:Nat} {d e:Array α} (h:Rotated (k + 1) m (m + 1) d e) (hkm:k + 1≤m) (hm:m < e.size):Rotated k m (m + 1) d (swp e (k + 1) k):=fun t=>by
 rw [swp_get e (by omega) (by omega) t,h k,h (k + 1),h t]
 repeat' split
 all_goals first | (exact at_eq d (by omega)) | (exfalso;omega)
theorem sorted_out {a b x y:Nat} {d d':Array α} (h:SortedIn lt x y d) (hp:PermIn a b d d') (ho:y≤a∨b≤x):SortedIn lt x y d':=fun i j hi hij hj=>by
 rw [hp.2.1 i (by omega),hp.2.1 j (by omega)]
 exact h i j hi hij hj
def Blk (lt:α→α→Bool) (B n:Nat) (d:Array α):Prop:=∀ j x,x=B * j→SortedIn lt x (min (x + B) n) d
def Mrg (lt:α→α→Bool) (B n a:Nat) (d:Array α):Prop:=(∃ k,a=2 * B * k)∧(∀ j x,x=2 * B * j→x + 2 * B≤a→SortedIn lt x (x + 2 * B) d)∧(∀ j x,x=B * j→a≤x→SortedIn lt x (min (x + B) n) d)
def Fst (lt:α→α→Bool) (a:Nat) (d:Array α):Prop:=(∃ k,a=20 * k)∧∀ j,20 * j + 20≤a→SortedIn lt (20 * j) (20 * j + 20) d
theorem fst_start (d:Array α):Fst lt 0 d:=⟨⟨0,rfl⟩,fun j h=>by omega⟩
theorem fst_step {a:Nat} {d d':Array α} (h:Fst lt a d) (hs:SortedIn lt a (a + 20) d') (hp:PermIn a (a + 20) d d'):Fst lt (a + 20) d':=by
 obtain ⟨⟨k,hk⟩,h2⟩:=h
 refine ⟨⟨k + 1,by omega⟩,fun j hj=>?_⟩
 by_cases e:20 * j + 20≤a
 ·exact sorted_out (h2 j e) hp (Or.inl e)
 ·have:20 * j=a:=by omega
  rw [this];exact hs
theorem fst_end {a n:Nat} {d d':Array α} (h:Fst lt a d) (han:a≤n) (hna:n < a + 20) (hs:SortedIn lt a n d') (hp:PermIn a n d d'):Blk lt 20 n d':=by
 obtain ⟨⟨k,hk⟩,h2⟩:=h
 intro j x hx
 subst hx
 by_cases e:20 * j + 20≤a
 ·rw [Nat.min_eq_left (by omega)]
  exact sorted_out (h2 j e) hp (Or.inl e)
 ·by_cases e2:20 * j=a
  ·rw [e2,Nat.min_eq_right (by omega)];exact hs
  ·exact SortedIn.empty _ (by omega)
theorem mrg_start {B n:Nat} {d:Array α} (hB:0 < B) (h:Blk lt B n d):Mrg lt B n 0 d:=⟨⟨0,rfl⟩,fun j x _ h2=>by omega,fun j x hx _=>h j x hx⟩
theorem mrg_here {B n a:Nat} {d:Array α} (h:Mrg lt B n a d):SortedIn lt a (min (a + B) n) d∧SortedIn lt (a + B) (min (a + 2 * B) n) d:=by
 obtain ⟨⟨k,hk⟩,_,h3⟩:=h
 have e1:a=B * (2 * k):=by rw [hk,Nat.mul_comm 2 B,Nat.mul_assoc]
 refine ⟨h3 (2 * k) a e1 (Nat.le_refl _),?_⟩
 have:=h3 (2 * k + 1) (a + B) (by rw [e1,Nat.mul_add,Nat.mul_one]) (by omega)
 rwa [show a + B + B=a + 2 * B by omega] at this
theorem mul_near {c j k:Nat} (h1:c * j≤c * k) (h2:c * k < c * j + c):j=k:=by
 have h3:c * k < c * (j + 1):=by rw [Nat.mul_add,Nat.mul_one];exact h2
 have h4:=Nat.lt_of_mul_lt_mul_left h3
 have hc:0 < c:=by omega
 have h5:=Nat.le_of_mul_le_mul_left h1 hc
 omega
theorem mrg_step {B n a:Nat} {d d':Array α} (h:Mrg lt B n a d) (hs:SortedIn lt a (a + 2 * B) d') (hp:PermIn a (a + 2 * B) d d'):Mrg lt B n (a + 2 * B) d':=by
 obtain ⟨⟨k,hk⟩,h2,h3⟩:=h
 refine ⟨⟨k + 1,by rw [hk,Nat.mul_add,Nat.mul_one]⟩,fun j x hx hl=>?_,fun j x hx hl=>sorted_out (h3 j x hx (by omega)) hp (Or.inr hl)⟩
 by_cases e:x + 2 * B≤a
 ·exact sorted_out (h2 j x hx e) hp (Or.inl e)
 ·have:j=k:=mul_near (c:=2 * B) (by omega) (by omega)
  have e2:x=a:=by rw [hx,hk,this]
  rw [e2];exact hs
theorem mrg_end {B n a:Nat} {d d':Array α} (h:Mrg lt B n a d) (han:a≤n) (hna:n < a + 2 * B) (hs:SortedIn lt a n d') (hp:PermIn a n d d'):Blk lt (2 * B) n d':=by
 obtain ⟨⟨k,hk⟩,h2,_⟩:=h
 intro j x hx
 by_cases e:x + 2 * B≤a
 ·rw [Nat.min_eq_left (by omega)]
  exact sorted_out (h2 j x hx e) hp (Or.inl e)
 ·by_cases e2:x≤a
  ·have:j=k:=mul_near (c:=2 * B) (by omega) (by omega)
   have e3:x=a:=by rw [hx,hk,this]
   rw [e3,Nat.min_eq_right (by omega)];exact hs
  ·refine SortedIn.empty _ ?_
   rcases Nat.lt_or_ge x n with e4 | e4
   ·have:k=j:=mul_near (c:=2 * B) (by omega) (by omega)
    have e3:x=a:=by rw [hx,hk,this]
    omega
   ·omega
def Later (q:α→α→Prop) (a b k:Nat) (e:Array α):Prop:=∀ s t,a≤s→s < t→t < b→k≤t→q e[t]! e[s]!
def Into (q:α→α→Prop) (a b k j:Nat) (e:Array α):Prop:=(∀ s,a≤s→s < j→q e[j]! e[s]!)∧Later q a b k e
theorem into_swap {q:α→α→Prop} {a b k i:Nat} {e:Array α} (h:Into q a b k (i + 1) e) (hs:i + 1 < e.size) (hk:i + 1 < k) (ha:a≤i):Into q a b k i (swp e (i + 1) i):=by
 refine ⟨fun s h1 h2=>?_,fun s t h1 h2 h3 h4=>?_⟩
 ·rw [swp_get e hs (by omega) i,swp_get e hs (by omega) s,if_pos rfl,if_neg (by omega),if_neg (by omega)]
  exact h.1 s h1 (by omega)
 ·rw [swp_get e hs (by omega) t,swp_get e hs (by omega) s,if_neg (by omega),if_neg (by omega)]
  by_cases e1:s=i
  ·rw [if_pos e1];exact h.2 (i + 1) t (by omega) (by omega) h3 h4
  ·rw [if_neg e1]
   by_cases e2:s=i + 1
   ·rw [if_pos e2];exact h.2 i t (by omega) (by omega) h3 h4
   ·rw [if_neg e2];exact h.2 s t h1 h2 h3 h4
def Ap (q:α→α→Prop) (a m b:Nat) (d:Array α):Prop:=∀ s t,a≤s→s < m→m≤t→t < b→q d[t]! d[s]!
theorem ap_rot {q:α→α→Prop} {a m b s mid en:Nat} {d d':Array α} (h:Ap q a m b d) (hen:en + s=mid + m) (has:a≤s) (hsm:s≤m) (hme:m≤en) (heb:en≤b) (hr:Rotated s m en d d'):Ap q a s mid d'∧Ap q mid en b d':=by
 have es:s + (en - m)=mid:=by omega
 refine ⟨fun x y h1 h2 h3 h4=>?_,fun x y h1 h2 h3 h4=>?_⟩
 ·rw [hr y,hr x,if_pos (by omega),if_neg (by omega),if_neg (by omega)]
  exact h _ _ h1 (by omega) (by omega) (by omega)
 ·rw [hr y,hr x,if_neg (by omega),if_neg (by omega),if_neg (by omega),if_pos (by omega)]
  exact h _ _ (by omega) (by omega) (by omega) h4
theorem ap_out {q:α→α→Prop} {a b x m y:Nat} {d d':Array α} (h:Ap q x m y d) (hp:PermIn a b d d') (ho:y≤a∨b≤x):Ap q x m y d':=fun s t h1 h2 h3 h4=>by
 rw [hp.2.1 s (by omega),hp.2.1 t (by omega)]
 exact h s t h1 h2 h3 h4
def CrX (q:α→α→Prop) (N x:Nat) (e:Array α):Prop:=∀ s t,s < x→x≤t→t < N→q e[t]! e[s]!
theorem cr_keep {q:α→α→Prop} {N x p r:Nat} {e e':Array α} (h:CrX q N x e) (hp:PermIn p r e e') (hr:r≤N) (hN:N≤e.size) (ho:x≤p∨r≤x):CrX q N x e':=fun s t h1 h2 h3=>by
 rcases ho with ho | ho
 ·rw [hp.2.1 s (Or.inl (by omega))]
  by_cases ht:p≤t∧t < r
  ·exact permIn_all e e' p r (fun y=>q y e[s]!) (by omega) hp (fun k hk hkr=>h s k h1 (by omega) (by omega)) t ht.1 ht.2
  ·rw [hp.2.1 t (by omega)];exact h s t h1 h2 h3
 ·rw [hp.2.1 t (Or.inr (by omega))]
  by_cases ht:p≤s∧s < r
  ·exact permIn_all e e' p r (fun y=>q e[t]! y) (by omega) hp (fun k hk hkr=>h k t (by omega) h2 h3) s ht.1 ht.2
  ·rw [hp.2.1 s (by omega)];exact h s t h1 h2 h3
theorem mul_sep (c j k:Nat):c * j≤c * k∨c * k + c≤c * j:=by
 rcases Nat.lt_or_ge k j with h | h
 ·exact Or.inr (by have:=Nat.mul_le_mul_left c (show k + 1≤j from h);rwa [Nat.mul_add,Nat.mul_one] at this)
 ·exact Or.inl (Nat.mul_le_mul_left c h)
def CrB (q:α→α→Prop) (N B:Nat) (e:Array α):Prop:=∀ j x,x=B * j→CrX q N x e
def CrM (q:α→α→Prop) (N B a:Nat) (e:Array α):Prop:=CrB q N (2 * B) e∧∀ j x,x=B * j→a≤x→CrX q N x e
theorem crm_start {q:α→α→Prop} {N B:Nat} {e:Array α} (h:CrB q N B e):CrM q N B 0 e:=⟨fun j x hx=>h (2 * j) x (by rw [hx,Nat.mul_comm 2 B,Nat.mul_assoc]),fun j x hx _=>h j x hx⟩
theorem crm_ap {q:α→α→Prop} {lt:α→α→Bool} {N B n a b:Nat} {e:Array α} (h:CrM q N B a e) (hm:Mrg lt B n a e) (hb:b≤N):Ap q a (a + B) b e:=by
 obtain ⟨⟨k,hk⟩,_⟩:=hm
 have e1:a + B=B * (2 * k + 1):=by rw [hk,Nat.mul_add,Nat.mul_one,Nat.mul_comm 2 B,Nat.mul_assoc]
 exact fun s t _ h2 h3 h4=>h.2 (2 * k + 1) (a + B) e1 (by omega) s t h2 h3 (by omega)
theorem crm_step {q:α→α→Prop} {lt:α→α→Bool} {N B n a:Nat} {e e':Array α} (h:CrM q N B a e) (hm:Mrg lt B n a e) (hN:N≤e.size) (ha:a + 2 * B≤N) (hp:PermIn a (a + 2 * B) e e'):CrM q N B (a + 2 * B) e':=by
 obtain ⟨⟨k,hk⟩,_⟩:=hm
 refine ⟨fun j x hx=>cr_keep (h.1 j x hx) hp ha hN ?_,fun j x hx hl=>cr_keep (h.2 j x hx (by omega)) hp ha hN (Or.inr hl)⟩
 rw [hx,hk]
 exact mul_sep (2 * B) j k
theorem crm_end {q:α→α→Prop} {lt:α→α→Bool} {N B n a:Nat} {e e':Array α} (h:CrM q N B a e) (hm:Mrg lt B n a e) (hN:N≤e.size) (ha:N < a + 2 * B) (hp:PermIn a N e e'):CrB q N (2 * B) e':=by
 obtain ⟨⟨k,hk⟩,_⟩:=hm
 intro j x hx
 rcases mul_sep (2 * B) j k with y | y
 ·exact cr_keep (h.1 j x hx) hp (Nat.le_refl _) hN (Or.inl (by rw [hx,hk];exact y))
 ·exact fun s t _ h2 h3=>by omega
end
end Go.Proofs.YtbleojodidbhiaaGreatDoor
