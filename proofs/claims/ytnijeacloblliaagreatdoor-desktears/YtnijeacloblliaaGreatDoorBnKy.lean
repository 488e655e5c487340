/-  -/
import Derived.Test.YtnijeacloblliaaGreatDoorBnA
import Derived.Sort.KeysCollected
import Derived.Shelf.SlGeneric
import Derived.Shelf.SlIter.Nil
import Derived.Shelf.SortM.Plain
import Derived.Shelf.SortM.SortNone
import Derived.Ground.GgzProg
import Derived.Ground.SlgmProg
import Derived.Test.YtnijeacloblliaaGreatDoorProg
namespace Go.Proofs.YtnijeacloblliaaGreatDoor
open Go.RowKit Go.Maps
theorem own_lenK {w:World} {B:Nat} {T:TypeId} {m n:Nat} {v:Value} {xs:List Value} (h:w.ownsRow B T m v n xs):∃ ad n' cap,v = .slice ad n' cap:=by
 rcases h.2 with ⟨rfl,_⟩ | ⟨g,cap,cur,rfl,_⟩
 ·exact ⟨_,_,_,rfl⟩
 ·exact ⟨_,_,_,rfl⟩
theorem enc_flatK:∀ ks:List ByteArray,(ks.map fun x:ByteArray=>x.data.toList).map Go.Proofs.encStr=ks.flatMap fun x=>[Value.string x]
 | []=>rfl
 | k :: ks=>by
  have e:Go.Proofs.encStr k.data.toList = .string k:=by cases k;rfl
  simp only [List.map_cons,List.flatMap_cons,enc_flatK ks,e]
  rfl
section
variable {W:World} {mb n:Nat} {D:DataW Value}
theorem str_keys (h:W.ownsMap Tryz.prog 9 heldE mb n D):(strKeys D).Nodup∧∀ x,x ∈ strKeys D ↔ has D (.string x)=true:=by
 obtain ⟨es,hD,hpw,_⟩:=h.entries law_strT
 obtain ⟨es',hD',hko⟩:=h.keysOf
 obtain rfl:es=es':=by rw [hD] at hD';simpa using hD'
 subst hD
 have hk:∀ p ∈ es,∃ x,p.1 = .string x:=fun p hp=>by
  obtain ⟨v,hv⟩:=hko p hp
  obtain ⟨x,_,hx,_⟩:=Maps.keyOf_str Tryz.underlying9 hv
  exact ⟨x,hx⟩
 constructor
 ·show (es.map fun p=>strOf p.1).Nodup
  refine List.pairwise_map.2 (hpw.imp_of_mem fun {p q} hp' hq' hne e=>hne ?_)
  obtain ⟨a,ha⟩:=hk p hp'
  obtain ⟨b,hb⟩:=hk q hq'
  rw [ha,hb] at e ⊢
  exact congrArg _ e
 ·intro x
  rw [has_eq,List.any_eq_true]
  show x ∈ es.map (fun p=>strOf p.1) ↔ _
  rw [List.mem_map]
  constructor
  ·rintro ⟨p,hp',rfl⟩
   obtain ⟨a,ha⟩:=hk p hp'
   exact ⟨p,hp',by rw [ha];simp [Lit.sameKey,strOf]⟩
  ·rintro ⟨p,hp',hs⟩
   obtain ⟨a,ha⟩:=hk p hp'
   rw [ha] at hs
   exact ⟨p,hp',by rw [ha];simpa [Lit.sameKey,strOf] using hs⟩
def baOf (l:List UInt8):ByteArray:=⟨l.toArray⟩
theorem baOf_data (l:List UInt8):(baOf l).data.toList=l:=rfl
theorem baOf_of (x:ByteArray):baOf x.data.toList=x:=by cases x;rfl
theorem baOf_inj {a b:List UInt8} (h:baOf a=baOf b):a=b:=by rw [← baOf_data a,h,baOf_data]
structure Keys (dom:ByteArray→Prop) (ks:List ByteArray):Prop where
 nodup:ks.Nodup
 mem:∀ x,x ∈ ks ↔ dom x
 sorted:ks.Pairwise fun a b=>a.data.toList≤b.data.toList
end
theorem keysD {W:World} {mb n:Nat} {D:DataW Value} {dom:ByteArray→Prop} (h:W.ownsMap Tryz.prog 9 heldE mb n D) (hd:∀ x,has D (keyB x)=true ↔ dom x) {ss:List (List UInt8)} (hs:ss.Perm (strKeys D)):∃ ks:List ByteArray,Keys dom ks∧ss.mergeSort (fun x y=>decide (x≤y))=ks.map (fun x=>x.data.toList):=by
 obtain ⟨hn,hm⟩:=str_keys h
 have tr:∀ a b c:List UInt8,leB a b=true→leB b c=true→leB a c=true:=fun a b c h1 h2=>by simp only [leB,decide_eq_true_eq] at *;exact List.le_trans h1 h2
 have to':∀ a b:List UInt8,(leB a b || leB b a)=true:=fun a b=>by simp only [leB,Bool.or_eq_true,decide_eq_true_eq];exact List.le_total a b
 have hp:(ss.mergeSort leB).Perm (strKeys D):=(List.mergeSort_perm ss leB).trans hs
 have hpw:=List.pairwise_mergeSort tr to' ss
 refine ⟨(ss.mergeSort leB).map baOf,⟨?_,fun x=>?_,?_⟩,?_⟩
 ·refine List.pairwise_map.2 ((hp.nodup_iff.2 hn).imp fun hne e=>hne (baOf_inj e))
 ·rw [← hd x,List.mem_map]
  show _ ↔ has D (.string x.data.toList)=true
  rw [← hm,← hp.mem_iff]
  constructor
  ·rintro ⟨l,hl,rfl⟩;exact hl
  ·intro hx;exact ⟨_,hx,baOf_of x⟩
 ·refine List.pairwise_map.2 (hpw.imp fun {a b} hab=>?_)
  simpa [leB,baOf_data] using hab
 ·rw [List.map_map]
  have e:((fun x:ByteArray=>x.data.toList) ∘ baOf)=id:=by funext l;rfl
  rw [e,List.map_id]
end Go.Proofs.YtnijeacloblliaaGreatDoor
namespace Go.Proofs
open Go.Shelf
def Tryz.keys205_ren:Go.Shelf.Ren:=⟨fun | 7=>205 | 10=>272 | n=>n,fun | 23=>217 | 26=>9 | 3=>281 | 28=>68 | 0=>0 | 27=>67 | 33=>24 | 4=>4 | n=>n,fun | n=>n⟩
theorem Tryz.keys205:Go.Proofs.SlLaysZ.n7 Tryz.prog Tryz.keys205_ren:={
  mixed:=by kernel_rfl
  f7:=⟨Tryz.f205.name,by decide,Tryz.func205.trans (congrArg some (by kernel_rfl))⟩
  f10:=⟨Tryz.f272.name,by decide,Tryz.func272.trans (congrArg some (by kernel_rfl))⟩
  t0:=Tryz.underlying0
  a0:=Tryz.isAgg0
  z0:=Tryz.sizeOf0
  v0:=Tryz.zeroValue0
  t4:=Tryz.underlying4
  a4:=Tryz.isAgg4
  z4:=Tryz.sizeOf4
  v4:=Tryz.zeroValue4
  t23:=Tryz.underlying217
  a23:=Tryz.isAgg217
  z23:=Tryz.sizeOf217
  v23:=Tryz.zeroValue217
  t26:=Tryz.underlying9
  a26:=Tryz.isAgg9
  z26:=Tryz.sizeOf9
  v26:=Tryz.zeroValue9
  t27:=Tryz.underlying67
  a27:=Tryz.isAgg67
  z27:=Tryz.sizeOf67
  v27:=Tryz.zeroValue67
  t28:=Tryz.underlying68
  a28:=Tryz.isAgg68
  z28:=Tryz.sizeOf68
  v28:=Tryz.zeroValue68
  t33:=Tryz.underlying24
  a33:=Tryz.isAgg24
  z33:=Tryz.sizeOf24
  v33:=Tryz.zeroValue24 }
def Tryz.sorted204_ren:Go.Shelf.Ren:=⟨fun | 6=>204 | 8=>270 | 9=>271 | 11=>327 | 13=>113 | 12=>328 | 23=>197 | 24=>198 | 14=>357 | 15=>358 | 16=>359 | 17=>360 | 18=>361 | 19=>362 | 20=>363 | 21=>364 | 22=>365 | 25=>378 | 26=>261 | 27=>262 | 28=>379 | 29=>380 | 30=>381 | 31=>387 | n=>n,fun | 26=>9 | 28=>68 | 24=>25 | 0=>0 | 3=>3 | 37=>100 | 48=>127 | 50=>126 | 4=>4 | 40=>269 | 39=>268 | 45=>151 | 5=>5 | 9=>9 | 51=>337 | 55=>341 | 57=>379 | 58=>221 | 33=>24 | n=>n,fun | n=>n⟩
theorem Tryz.sorted204:Go.Proofs.SlLaysZ.n6 Tryz.prog Tryz.sorted204_ren:={
  mixed:=by kernel_rfl
  f6:=⟨Tryz.f204.name,by decide,Tryz.func204.trans (congrArg some (by kernel_rfl))⟩
  f8:=⟨Tryz.f270.name,by decide,Tryz.func270.trans (congrArg some (by kernel_rfl))⟩
  f11:=⟨Tryz.f327.name,by decide,Tryz.func327.trans (congrArg some (by kernel_rfl))⟩
  t0:=Tryz.underlying0
  a0:=Tryz.isAgg0
  z0:=Tryz.sizeOf0
  v0:=Tryz.zeroValue0
  t24:=Tryz.underlying25
  a24:=Tryz.isAgg25
  z24:=Tryz.sizeOf25
  v24:=Tryz.zeroValue25
  t26:=Tryz.underlying9
  a26:=Tryz.isAgg9
  z26:=Tryz.sizeOf9
  v26:=Tryz.zeroValue9
  t28:=Tryz.underlying68
  a28:=Tryz.isAgg68
  z28:=Tryz.sizeOf68
  v28:=Tryz.zeroValue68
  i26:=by kernel_rfl }
def Tryz.sort271_ren:Go.Shelf.Ren:=⟨fun | 6=>271 | 8=>113 | 9=>328 | 19=>197 | 20=>198 | 21=>357 | 22=>358 | 23=>359 | 24=>360 | 25=>361 | 26=>362 | 27=>363 | 28=>364 | 29=>365 | 36=>378 | 31=>261 | 32=>262 | 37=>379 | 38=>380 | 39=>381 | 41=>387 | n=>n,fun | 27=>25 | 29=>9 | 3=>3 | 32=>100 | 26=>25 | 0=>0 | 44=>127 | 46=>126 | 4=>4 | 36=>269 | 35=>268 | 41=>151 | 5=>5 | 9=>9 | 53=>337 | 57=>341 | 63=>379 | 64=>221 | n=>n,fun | n=>n⟩
theorem Tryz.sort271:Go.Proofs.SlLaysM.n6 Tryz.prog Tryz.sort271_ren:={
  mixed:=by kernel_rfl
  f6:=⟨Tryz.f271.name,by decide,Tryz.func271.trans (congrArg some (by kernel_rfl))⟩
  f8:=Tryz.func113.trans (congrArg some (by kernel_rfl))
  f9:=⟨Tryz.f328.name,by decide,Tryz.func328.trans (congrArg some (by kernel_rfl))⟩
  f19:=Tryz.func197.trans (congrArg some (by kernel_rfl))
  f20:=Tryz.func198.trans (congrArg some (by kernel_rfl))
  f21:=⟨Tryz.f357.name,by decide,Tryz.func357.trans (congrArg some (by kernel_rfl))⟩
  f22:=⟨Tryz.f358.name,by decide,Tryz.func358.trans (congrArg some (by kernel_rfl))⟩
  f23:=⟨Tryz.f359.name,by decide,Tryz.func359.trans (congrArg some (by kernel_rfl))⟩
  f24:=⟨Tryz.f360.name,by decide,Tryz.func360.trans (congrArg some (by kernel_rfl))⟩
  f25:=⟨Tryz.f361.name,by decide,Tryz.func361.trans (congrArg some (by kernel_rfl))⟩
  f26:=⟨Tryz.f362.name,by decide,Tryz.func362.trans (congrArg some (by kernel_rfl))⟩
  f27:=⟨Tryz.f363.name,by decide,Tryz.func363.trans (congrArg some (by kernel_rfl))⟩
  f28:=⟨Tryz.f364.name,by decide,Tryz.func364.trans (congrArg some (by kernel_rfl))⟩
  f29:=⟨Tryz.f365.name,by decide,Tryz.func365.trans (congrArg some (by kernel_rfl))⟩
  f31:=Tryz.func261.trans (congrArg some (by kernel_rfl))
  f32:=Tryz.func262.trans (congrArg some (by kernel_rfl))
  f36:=⟨Tryz.f378.name,by decide,Tryz.func378.trans (congrArg some (by kernel_rfl))⟩
  f37:=⟨Tryz.f379.name,by decide,Tryz.func379.trans (congrArg some (by kernel_rfl))⟩
  f38:=⟨Tryz.f380.name,by decide,Tryz.func380.trans (congrArg some (by kernel_rfl))⟩
  f39:=⟨Tryz.f381.name,by decide,Tryz.func381.trans (congrArg some (by kernel_rfl))⟩
  f41:=⟨Tryz.f387.name,by decide,Tryz.func387.trans (congrArg some (by kernel_rfl))⟩
  t0:=Tryz.underlying0
  a0:=Tryz.isAgg0
  z0:=Tryz.sizeOf0
  v0:=Tryz.zeroValue0
  t3:=Tryz.underlying3
  a3:=Tryz.isAgg3
  z3:=Tryz.sizeOf3
  v3:=Tryz.zeroValue3
  t4:=Tryz.underlying4
  a4:=Tryz.isAgg4
  z4:=Tryz.sizeOf4
  v4:=Tryz.zeroValue4
  t5:=Tryz.underlying5
  a5:=Tryz.isAgg5
  z5:=Tryz.sizeOf5
  v5:=Tryz.zeroValue5
  t9:=Tryz.underlying9
  a9:=Tryz.isAgg9
  z9:=Tryz.sizeOf9
  v9:=Tryz.zeroValue9
  t26:=Tryz.underlying25
  a26:=Tryz.isAgg25
  z26:=Tryz.sizeOf25
  v26:=Tryz.zeroValue25
  t27:=Tryz.underlying25
  a27:=Tryz.isAgg25
  z27:=Tryz.sizeOf25
  v27:=Tryz.zeroValue25
  t29:=Tryz.underlying9
  a29:=Tryz.isAgg9
  z29:=Tryz.sizeOf9
  v29:=Tryz.zeroValue9
  t32:=Tryz.underlying100
  a32:=Tryz.isAgg100
  z32:=Tryz.sizeOf100
  v32:=Tryz.zeroValue100
  t35:=Tryz.underlying268
  a35:=Tryz.isAgg268
  z35:=Tryz.sizeOf268
  v35:=Tryz.zeroValue268
  t36:=Tryz.underlying269
  a36:=Tryz.isAgg269
  z36:=Tryz.sizeOf269
  v36:=Tryz.zeroValue269
  t41:=Tryz.underlying151
  a41:=Tryz.isAgg151
  z41:=Tryz.sizeOf151
  v41:=Tryz.zeroValue151
  t44:=Tryz.underlying127
  a44:=Tryz.isAgg127
  z44:=Tryz.sizeOf127
  v44:=Tryz.zeroValue127
  t46:=Tryz.underlying126
  a46:=Tryz.isAgg126
  z46:=Tryz.sizeOf126
  v46:=Tryz.zeroValue126
  t53:=Tryz.underlying337
  a53:=Tryz.isAgg337
  z53:=Tryz.sizeOf337
  v53:=Tryz.zeroValue337
  t57:=Tryz.underlying341
  a57:=Tryz.isAgg341
  z57:=Tryz.sizeOf341
  v57:=Tryz.zeroValue341
  t63:=Tryz.underlying379
  a63:=Tryz.isAgg379
  z63:=Tryz.sizeOf379
  v63:=Tryz.zeroValue379
  t64:=Tryz.underlying221
  a64:=Tryz.isAgg221
  z64:=Tryz.sizeOf221
  v64:=Tryz.zeroValue221 }
def Tryz.keys207_ren:Go.Shelf.Ren:=⟨fun | 7=>207 | 10=>274 | n=>n,fun | 23=>282 | 26=>9 | 3=>179 | 28=>68 | 0=>0 | 27=>67 | 33=>24 | 4=>4 | n=>n,fun | n=>n⟩
theorem Tryz.keys207:Go.Proofs.SlLaysZ.n7 Tryz.prog Tryz.keys207_ren:={
  mixed:=by kernel_rfl
  f7:=⟨Tryz.f207.name,by decide,Tryz.func207.trans (congrArg some (by kernel_rfl))⟩
  f10:=⟨Tryz.f274.name,by decide,Tryz.func274.trans (congrArg some (by kernel_rfl))⟩
  t0:=Tryz.underlying0
  a0:=Tryz.isAgg0
  z0:=Tryz.sizeOf0
  v0:=Tryz.zeroValue0
  t4:=Tryz.underlying4
  a4:=Tryz.isAgg4
  z4:=Tryz.sizeOf4
  v4:=Tryz.zeroValue4
  t23:=Tryz.underlying282
  a23:=Tryz.isAgg282
  z23:=Tryz.sizeOf282
  v23:=Tryz.zeroValue282
  t26:=Tryz.underlying9
  a26:=Tryz.isAgg9
  z26:=Tryz.sizeOf9
  v26:=Tryz.zeroValue9
  t27:=Tryz.underlying67
  a27:=Tryz.isAgg67
  z27:=Tryz.sizeOf67
  v27:=Tryz.zeroValue67
  t28:=Tryz.underlying68
  a28:=Tryz.isAgg68
  z28:=Tryz.sizeOf68
  v28:=Tryz.zeroValue68
  t33:=Tryz.underlying24
  a33:=Tryz.isAgg24
  z33:=Tryz.sizeOf24
  v33:=Tryz.zeroValue24 }
def Tryz.keys217_ren:Go.Shelf.Ren:=⟨fun | 7=>217 | 10=>281 | n=>n,fun | 23=>293 | 26=>9 | 3=>3 | 28=>68 | 0=>0 | 27=>67 | 33=>24 | 4=>4 | n=>n,fun | n=>n⟩
theorem Tryz.keys217:Go.Proofs.SlLaysZ.n7 Tryz.prog Tryz.keys217_ren:={
  mixed:=by kernel_rfl
  f7:=⟨Tryz.f217.name,by decide,Tryz.func217.trans (congrArg some (by kernel_rfl))⟩
  f10:=⟨Tryz.f281.name,by decide,Tryz.func281.trans (congrArg some (by kernel_rfl))⟩
  t0:=Tryz.underlying0
  a0:=Tryz.isAgg0
  z0:=Tryz.sizeOf0
  v0:=Tryz.zeroValue0
  t4:=Tryz.underlying4
  a4:=Tryz.isAgg4
  z4:=Tryz.sizeOf4
  v4:=Tryz.zeroValue4
  t23:=Tryz.underlying293
  a23:=Tryz.isAgg293
  z23:=Tryz.sizeOf293
  v23:=Tryz.zeroValue293
  t26:=Tryz.underlying9
  a26:=Tryz.isAgg9
  z26:=Tryz.sizeOf9
  v26:=Tryz.zeroValue9
  t27:=Tryz.underlying67
  a27:=Tryz.isAgg67
  z27:=Tryz.sizeOf67
  v27:=Tryz.zeroValue67
  t28:=Tryz.underlying68
  a28:=Tryz.isAgg68
  z28:=Tryz.sizeOf68
  v28:=Tryz.zeroValue68
  t33:=Tryz.underlying24
  a33:=Tryz.isAgg24
  z33:=Tryz.sizeOf24
  v33:=Tryz.zeroValue24 }
open Go.RowKit Go.Maps Go.Sort
theorem Tryz.sortsAt (m:Nat):AnyZ.SortsIn Tryz.prog Tryz.sorted204_ren Fence.wide m:=
  ⟨fun blk off cap ss W hH hblk hsz=>callsIn_wide.2 (AnyM.slices_Sort_string Tryz.sort271 blk off cap ss W hH hblk hsz),
   fun p cap W=>callsIn_wide.2 (AnyM.slices_Sort_string_none Tryz.sort271 p cap W)⟩
theorem Tryz.maps_KeysL (mb:Option Nat) (W:World):CallsIn Fence.wide 5 Tryz.prog 205 #[.map mb] W fun e w'=>e = .returned (.func (.func 272) #[] #[.pointer (some ⟨W.heap.size,0,none⟩)])∧w'=W.alloc (.cells #[.map mb] 217):=
  AnyZ.keys_in Tryz.keys205 Fence.wide 5 trivial rfl mb W
set_option maxHeartbeats 1000000 in
theorem Tryz.sorted_keysL {H:Type} (b nn:Nat) (D0:DataW H) (R:Value→Option (DataW H × List MemPlace)) (w:World) (hown:w.ownsMap Tryz.prog 9 R b nn D0) (hmax:Maps.size D0≤maxLen) (hbytes:Maps.size D0 * 16≤140737488355328) :
    CallsIn Fence.wide 5 Tryz.prog 204 #[.func (.func 272) #[] #[.pointer (some ⟨w.heap.size,0,none⟩)]] (w.alloc (.cells #[.map (some b)] 217)) fun e w'=>∃ (v:Value) (ss:List (List UInt8)),e = .returned v∧ss.Perm (strKeys D0) ∧
      w'.ownsRow (w.alloc (.cells #[.map (some b)] 217)).heap.size 9 1 v ss.length ((ss.mergeSort (fun x y=>decide (x≤y))).map encStr)∧(v = .slice none 0 0 ↔ ss=[])∧Below (w.alloc (.cells #[.map (some b)] 217)).heap.size (w.alloc (.cells #[.map (some b)] 217)) w':=by
  have hbl:=hown.lt
  have hseq:SeqGives Fence.wide 2 Tryz.prog 272 #[.pointer (some ⟨w.heap.size,0,none⟩)] encStr (fun ss=>ss.Perm (strKeys D0)) (Maps.size D0) (w.alloc (.cells #[.map (some b)] 217)):=
    AnyZ.keys_gives (ρ:=Tryz.keys205_ren) { Tryz.keys205 with } Fence.wide _ trivial rfl (by omega) w.heap.size b nn D0 _ (by simp) (by simp) (by
      obtain ⟨es,clock,hb,Ft,hs,hD⟩:=hown
      exact ⟨es,clock,(Below.heap_alloc _ _ b hbl).trans hb,Ft,hs,hD⟩)
  exact AnyZ.sorted_in Tryz.sorted204 Fence.wide 5 trivial trivial trivial trivial rfl (by omega) (Tryz.sortsAt _) (enters_of Tryz.func271 (by kernel_rfl) rfl) 272 #[.pointer (some ⟨w.heap.size,0,none⟩)] trivial (enters_of Tryz.func272 (by kernel_rfl) rfl) _ _ hmax hbytes _ hseq
theorem Tryz.maps_KeysC (mb:Option Nat) (W:World):CallsIn Fence.wide 5 Tryz.prog 207 #[.map mb] W fun e w'=>e = .returned (.func (.func 274) #[] #[.pointer (some ⟨W.heap.size,0,none⟩)])∧w'=W.alloc (.cells #[.map mb] 282):=
  AnyZ.keys_in Tryz.keys207 Fence.wide 5 trivial rfl mb W
set_option maxHeartbeats 1000000 in
theorem Tryz.sorted_keysC {H:Type} (b nn:Nat) (D0:DataW H) (R:Value→Option (DataW H × List MemPlace)) (w:World) (hown:w.ownsMap Tryz.prog 9 R b nn D0) (hmax:Maps.size D0≤maxLen) (hbytes:Maps.size D0 * 16≤140737488355328) :
    CallsIn Fence.wide 5 Tryz.prog 204 #[.func (.func 274) #[] #[.pointer (some ⟨w.heap.size,0,none⟩)]] (w.alloc (.cells #[.map (some b)] 282)) fun e w'=>∃ (v:Value) (ss:List (List UInt8)),e = .returned v∧ss.Perm (strKeys D0) ∧
      w'.ownsRow (w.alloc (.cells #[.map (some b)] 282)).heap.size 9 1 v ss.length ((ss.mergeSort (fun x y=>decide (x≤y))).map encStr)∧(v = .slice none 0 0 ↔ ss=[])∧Below (w.alloc (.cells #[.map (some b)] 282)).heap.size (w.alloc (.cells #[.map (some b)] 282)) w':=by
  have hbl:=hown.lt
  have hseq:SeqGives Fence.wide 2 Tryz.prog 274 #[.pointer (some ⟨w.heap.size,0,none⟩)] encStr (fun ss=>ss.Perm (strKeys D0)) (Maps.size D0) (w.alloc (.cells #[.map (some b)] 282)):=
    AnyZ.keys_gives (ρ:=Tryz.keys207_ren) { Tryz.keys207 with } Fence.wide _ trivial rfl (by omega) w.heap.size b nn D0 _ (by simp) (by simp) (by
      obtain ⟨es,clock,hb,Ft,hs,hD⟩:=hown
      exact ⟨es,clock,(Below.heap_alloc _ _ b hbl).trans hb,Ft,hs,hD⟩)
  exact AnyZ.sorted_in Tryz.sorted204 Fence.wide 5 trivial trivial trivial trivial rfl (by omega) (Tryz.sortsAt _) (enters_of Tryz.func271 (by kernel_rfl) rfl) 274 #[.pointer (some ⟨w.heap.size,0,none⟩)] trivial (enters_of Tryz.func274 (by kernel_rfl) rfl) _ _ hmax hbytes _ hseq
theorem Tryz.maps_Keys (mb:Option Nat) (W:World):CallsIn Fence.wide 5 Tryz.prog 217 #[.map mb] W fun e w'=>e = .returned (.func (.func 281) #[] #[.pointer (some ⟨W.heap.size,0,none⟩)])∧w'=W.alloc (.cells #[.map mb] 293):=
  AnyZ.keys_in Tryz.keys217 Fence.wide 5 trivial rfl mb W
set_option maxHeartbeats 1000000 in
theorem Tryz.sorted_keys {H:Type} (b nn:Nat) (D0:DataW H) (R:Value→Option (DataW H × List MemPlace)) (w:World) (hown:w.ownsMap Tryz.prog 9 R b nn D0) (hmax:Maps.size D0≤maxLen) (hbytes:Maps.size D0 * 16≤140737488355328) :
    CallsIn Fence.wide 5 Tryz.prog 204 #[.func (.func 281) #[] #[.pointer (some ⟨w.heap.size,0,none⟩)]] (w.alloc (.cells #[.map (some b)] 293)) fun e w'=>∃ (v:Value) (ss:List (List UInt8)),e = .returned v∧ss.Perm (strKeys D0) ∧
      w'.ownsRow (w.alloc (.cells #[.map (some b)] 293)).heap.size 9 1 v ss.length ((ss.mergeSort (fun x y=>decide (x≤y))).map encStr)∧(v = .slice none 0 0 ↔ ss=[])∧Below (w.alloc (.cells #[.map (some b)] 293)).heap.size (w.alloc (.cells #[.map (some b)] 293)) w':=by
  have hbl:=hown.lt
  have hseq:SeqGives Fence.wide 2 Tryz.prog 281 #[.pointer (some ⟨w.heap.size,0,none⟩)] encStr (fun ss=>ss.Perm (strKeys D0)) (Maps.size D0) (w.alloc (.cells #[.map (some b)] 293)):=
    AnyZ.keys_gives (ρ:=Tryz.keys217_ren) { Tryz.keys217 with } Fence.wide _ trivial rfl (by omega) w.heap.size b nn D0 _ (by simp) (by simp) (by
      obtain ⟨es,clock,hb,Ft,hs,hD⟩:=hown
      exact ⟨es,clock,(Below.heap_alloc _ _ b hbl).trans hb,Ft,hs,hD⟩)
  exact AnyZ.sorted_in Tryz.sorted204 Fence.wide 5 trivial trivial trivial trivial rfl (by omega) (Tryz.sortsAt _) (enters_of Tryz.func271 (by kernel_rfl) rfl) 281 #[.pointer (some ⟨w.heap.size,0,none⟩)] trivial (enters_of Tryz.func281 (by kernel_rfl) rfl) _ _ hmax hbytes _ hseq
end Go.Proofs
