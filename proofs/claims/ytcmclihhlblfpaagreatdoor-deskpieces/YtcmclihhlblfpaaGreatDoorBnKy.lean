/-  -/
import Derived.Test.YtcmclihhlblfpaaGreatDoorBnA
import Derived.Sort.KeysCollected
import Derived.Shelf.SlGeneric
import Derived.Shelf.SlIter.Nil
import Derived.Shelf.SortM.Plain
import Derived.Shelf.SortM.SortNone
import Derived.Ground.GgzProg
import Derived.Ground.SlgmProg
import Derived.Test.YtcmclihhlblfpaaGreatDoorProg
namespace Go.Proofs.YtcmclihhlblfpaaGreatDoor
open Go.RowKit Go.Maps
theorem own_lenK {w:World} {B:Nat} {T:TypeId} {m n:Nat} {v:Value} {xs:List Value} (h:w.ownsRow B T m v n xs):∃ ad n' cap,v = .slice ad n' cap:=by
 rcases h.2 with ⟨rfl,_⟩ | ⟨g,cap,cur,rfl,_⟩
 ·exact ⟨_,_,_,rfl⟩
 ·exact ⟨_,_,_,rfl⟩
theorem enc_flatK:∀ ks:List ByteArray,(ks.map fun x:ByteArray=>x.data.toList).map Go.Proofs.encStr=ks.flatMap fun x=>[Value.string x]
 | []=>rfl
 | k :: ks=>by
  have e:Go.Proofs.encStr k.data.toList = .string k:=by cases k;rfl
  simp only [List.map_cons,List.flatMap_cons,enc_flatK ks,e]
  rfl
section
variable {W:World} {mb n:Nat} {D:DataW Value}
theorem str_keys (h:W.ownsMap Tryz.prog 9 heldE mb n D):(strKeys D).Nodup∧∀ x,x ∈ strKeys D ↔ has D (.string x)=true:=by
 obtain ⟨es,hD,hpw,_⟩:=h.entries law_strT
 obtain ⟨es',hD',hko⟩:=h.keysOf
 obtain rfl:es=es':=by rw [hD] at hD';simpa using hD'
 subst hD
 have hk:∀ p ∈ es,∃ x,p.1 = .string x:=fun p hp=>by
  obtain ⟨v,hv⟩:=hko p hp
  obtain ⟨x,_,hx,_⟩:=Maps.keyOf_str Tryz.underlying9 hv
  exact ⟨x,hx⟩
 constructor
 ·show (es.map fun p=>strOf p.1).Nodup
  refine List.pairwise_map.2 (hpw.imp_of_mem fun {p q} hp' hq' hne e=>hne ?_)
  obtain ⟨a,ha⟩:=hk p hp'
  obtain ⟨b,hb⟩:=hk q hq'
  rw [ha,hb] at e ⊢
  exact congrArg _ e
 ·intro x
  rw [has_eq,List.any_eq_true]
  show x ∈ es.map (fun p=>strOf p.1) ↔ _
  rw [List.mem_map]
  constructor
  ·rintro ⟨p,hp',rfl⟩
   obtain ⟨a,ha⟩:=hk p hp'
   exact ⟨p,hp',by rw [ha];simp [Lit.sameKey,strOf]⟩
  ·rintro ⟨p,hp',hs⟩
   obtain ⟨a,ha⟩:=hk p hp'
   rw [ha] at hs
   exact ⟨p,hp',by rw [ha];simpa [Lit.sameKey,strOf] using hs⟩
def baOf (l:List UInt8):ByteArray:=⟨l.toArray⟩
theorem baOf_data (l:List UInt8):(baOf l).data.toList=l:=rfl
theorem baOf_of (x:ByteArray):baOf x.data.toList=x:=by cases x;rfl
theorem baOf_inj {a b:List UInt8} (h:baOf a=baOf b):a=b:=by rw [← baOf_data a,h,baOf_data]
structure Keys (dom:ByteArray→Prop) (ks:List ByteArray):Prop where
 nodup:ks.Nodup
 mem:∀ x,x ∈ ks ↔ dom x
 sorted:ks.Pairwise fun a b=>a.data.toList≤b.data.toList
end
theorem keysD {W:World} {mb n:Nat} {D:DataW Value} {dom:ByteArray→Prop} (h:W.ownsMap Tryz.prog 9 heldE mb n D) (hd:∀ x,has D (keyB x)=true ↔ dom x) {ss:List (List UInt8)} (hs:ss.Perm (strKeys D)):∃ ks:List ByteArray,Keys dom ks∧ss.mergeSort (fun x y=>decide (x≤y))=ks.map (fun x=>x.data.toList):=by
 obtain ⟨hn,hm⟩:=str_keys h
 have tr:∀ a b c:List UInt8,leB a b=true→leB b c=true→leB a c=true:=fun a b c h1 h2=>by simp only [leB,decide_eq_true_eq] at *;exact List.le_trans h1 h2
 have to':∀ a b:List UInt8,(leB a b || leB b a)=true:=fun a b=>by simp only [leB,Bool.or_eq_true,decide_eq_true_eq];exact List.le_total a b
 have hp:(ss.mergeSort leB).Perm (strKeys D):=(List.mergeSort_perm ss leB).trans hs
 have hpw:=List.pairwise_mergeSort tr to' ss
 refine ⟨(ss.mergeSort leB).map baOf,⟨?_,fun x=>?_,?_⟩,?_⟩
 ·refine List.pairwise_map.2 ((hp.nodup_iff.2 hn).imp fun hne e=>hne (baOf_inj e))
 ·rw [← hd x,List.mem_map]
  show _ ↔ has D (.string x.data.toList)=true
  rw [← hm,← hp.mem_iff]
  constructor
  ·rintro ⟨l,hl,rfl⟩;exact hl
  ·intro hx;exact ⟨_,hx,baOf_of x⟩
 ·refine List.pairwise_map.2 (hpw.imp fun {a b} hab=>?_)
  simpa [leB,baOf_data] using hab
 ·rw [List.map_map]
  have e:((fun x:ByteArray=>x.data.toList) ∘ baOf)=id:=by funext l;rfl
  rw [e,List.map_id]
end Go.Proofs.YtcmclihhlblfpaaGreatDoor
namespace Go.Proofs
open Go.Shelf
def Tryz.keys80_ren:Go.Shelf.Ren:=⟨fun | 7=>80 | 10=>120 | n=>n,fun | 23=>130 | 26=>9 | 3=>138 | 28=>45 | 0=>0 | 27=>44 | 33=>122 | 4=>4 | n=>n,fun | n=>n⟩
theorem Tryz.keys80:Go.Proofs.SlLaysZ.n7 Tryz.prog Tryz.keys80_ren:={
  mixed:=by kernel_rfl
  f7:=⟨Tryz.f80.name,by decide,Tryz.func80.trans (congrArg some (by kernel_rfl))⟩
  f10:=⟨Tryz.f120.name,by decide,Tryz.func120.trans (congrArg some (by kernel_rfl))⟩
  t0:=Tryz.underlying0
  a0:=Tryz.isAgg0
  z0:=Tryz.sizeOf0
  v0:=Tryz.zeroValue0
  t4:=Tryz.underlying4
  a4:=Tryz.isAgg4
  z4:=Tryz.sizeOf4
  v4:=Tryz.zeroValue4
  t23:=Tryz.underlying130
  a23:=Tryz.isAgg130
  z23:=Tryz.sizeOf130
  v23:=Tryz.zeroValue130
  t26:=Tryz.underlying9
  a26:=Tryz.isAgg9
  z26:=Tryz.sizeOf9
  v26:=Tryz.zeroValue9
  t27:=Tryz.underlying44
  a27:=Tryz.isAgg44
  z27:=Tryz.sizeOf44
  v27:=Tryz.zeroValue44
  t28:=Tryz.underlying45
  a28:=Tryz.isAgg45
  z28:=Tryz.sizeOf45
  v28:=Tryz.zeroValue45
  t33:=Tryz.underlying122
  a33:=Tryz.isAgg122
  z33:=Tryz.sizeOf122
  v33:=Tryz.zeroValue122 }
def Tryz.sorted79_ren:Go.Shelf.Ren:=⟨fun | 6=>79 | 8=>118 | 9=>119 | 11=>164 | 13=>130 | 12=>165 | 23=>187 | 24=>149 | 14=>209 | 15=>210 | 16=>211 | 17=>212 | 18=>213 | 19=>214 | 20=>215 | 21=>216 | 22=>217 | 25=>240 | 26=>230 | 27=>231 | 28=>241 | 29=>242 | 30=>243 | 31=>255 | n=>n,fun | 26=>9 | 28=>45 | 24=>53 | 0=>0 | 3=>3 | 37=>162 | 48=>110 | 50=>114 | 4=>4 | 40=>238 | 39=>237 | 45=>242 | 5=>5 | 9=>9 | 51=>289 | 55=>293 | 57=>309 | 58=>139 | 33=>122 | n=>n,fun | n=>n⟩
theorem Tryz.sorted79:Go.Proofs.SlLaysZ.n6 Tryz.prog Tryz.sorted79_ren:={
  mixed:=by kernel_rfl
  f6:=⟨Tryz.f79.name,by decide,Tryz.func79.trans (congrArg some (by kernel_rfl))⟩
  f8:=⟨Tryz.f118.name,by decide,Tryz.func118.trans (congrArg some (by kernel_rfl))⟩
  f11:=⟨Tryz.f164.name,by decide,Tryz.func164.trans (congrArg some (by kernel_rfl))⟩
  t0:=Tryz.underlying0
  a0:=Tryz.isAgg0
  z0:=Tryz.sizeOf0
  v0:=Tryz.zeroValue0
  t24:=Tryz.underlying53
  a24:=Tryz.isAgg53
  z24:=Tryz.sizeOf53
  v24:=Tryz.zeroValue53
  t26:=Tryz.underlying9
  a26:=Tryz.isAgg9
  z26:=Tryz.sizeOf9
  v26:=Tryz.zeroValue9
  t28:=Tryz.underlying45
  a28:=Tryz.isAgg45
  z28:=Tryz.sizeOf45
  v28:=Tryz.zeroValue45
  i26:=by kernel_rfl }
def Tryz.sort119_ren:Go.Shelf.Ren:=⟨fun | 6=>119 | 8=>130 | 9=>165 | 19=>187 | 20=>149 | 21=>209 | 22=>210 | 23=>211 | 24=>212 | 25=>213 | 26=>214 | 27=>215 | 28=>216 | 29=>217 | 36=>240 | 31=>230 | 32=>231 | 37=>241 | 38=>242 | 39=>243 | 41=>255 | n=>n,fun | 27=>53 | 29=>9 | 3=>3 | 32=>162 | 26=>53 | 0=>0 | 44=>110 | 46=>114 | 4=>4 | 36=>238 | 35=>237 | 41=>242 | 5=>5 | 9=>9 | 53=>289 | 57=>293 | 63=>309 | 64=>139 | n=>n,fun | n=>n⟩
theorem Tryz.sort119:Go.Proofs.SlLaysM.n6 Tryz.prog Tryz.sort119_ren:={
  mixed:=by kernel_rfl
  f6:=⟨Tryz.f119.name,by decide,Tryz.func119.trans (congrArg some (by kernel_rfl))⟩
  f8:=Tryz.func130.trans (congrArg some (by kernel_rfl))
  f9:=⟨Tryz.f165.name,by decide,Tryz.func165.trans (congrArg some (by kernel_rfl))⟩
  f19:=Tryz.func187.trans (congrArg some (by kernel_rfl))
  f20:=Tryz.func149.trans (congrArg some (by kernel_rfl))
  f21:=⟨Tryz.f209.name,by decide,Tryz.func209.trans (congrArg some (by kernel_rfl))⟩
  f22:=⟨Tryz.f210.name,by decide,Tryz.func210.trans (congrArg some (by kernel_rfl))⟩
  f23:=⟨Tryz.f211.name,by decide,Tryz.func211.trans (congrArg some (by kernel_rfl))⟩
  f24:=⟨Tryz.f212.name,by decide,Tryz.func212.trans (congrArg some (by kernel_rfl))⟩
  f25:=⟨Tryz.f213.name,by decide,Tryz.func213.trans (congrArg some (by kernel_rfl))⟩
  f26:=⟨Tryz.f214.name,by decide,Tryz.func214.trans (congrArg some (by kernel_rfl))⟩
  f27:=⟨Tryz.f215.name,by decide,Tryz.func215.trans (congrArg some (by kernel_rfl))⟩
  f28:=⟨Tryz.f216.name,by decide,Tryz.func216.trans (congrArg some (by kernel_rfl))⟩
  f29:=⟨Tryz.f217.name,by decide,Tryz.func217.trans (congrArg some (by kernel_rfl))⟩
  f31:=Tryz.func230.trans (congrArg some (by kernel_rfl))
  f32:=Tryz.func231.trans (congrArg some (by kernel_rfl))
  f36:=⟨Tryz.f240.name,by decide,Tryz.func240.trans (congrArg some (by kernel_rfl))⟩
  f37:=⟨Tryz.f241.name,by decide,Tryz.func241.trans (congrArg some (by kernel_rfl))⟩
  f38:=⟨Tryz.f242.name,by decide,Tryz.func242.trans (congrArg some (by kernel_rfl))⟩
  f39:=⟨Tryz.f243.name,by decide,Tryz.func243.trans (congrArg some (by kernel_rfl))⟩
  f41:=⟨Tryz.f255.name,by decide,Tryz.func255.trans (congrArg some (by kernel_rfl))⟩
  t0:=Tryz.underlying0
  a0:=Tryz.isAgg0
  z0:=Tryz.sizeOf0
  v0:=Tryz.zeroValue0
  t3:=Tryz.underlying3
  a3:=Tryz.isAgg3
  z3:=Tryz.sizeOf3
  v3:=Tryz.zeroValue3
  t4:=Tryz.underlying4
  a4:=Tryz.isAgg4
  z4:=Tryz.sizeOf4
  v4:=Tryz.zeroValue4
  t5:=Tryz.underlying5
  a5:=Tryz.isAgg5
  z5:=Tryz.sizeOf5
  v5:=Tryz.zeroValue5
  t9:=Tryz.underlying9
  a9:=Tryz.isAgg9
  z9:=Tryz.sizeOf9
  v9:=Tryz.zeroValue9
  t26:=Tryz.underlying53
  a26:=Tryz.isAgg53
  z26:=Tryz.sizeOf53
  v26:=Tryz.zeroValue53
  t27:=Tryz.underlying53
  a27:=Tryz.isAgg53
  z27:=Tryz.sizeOf53
  v27:=Tryz.zeroValue53
  t29:=Tryz.underlying9
  a29:=Tryz.isAgg9
  z29:=Tryz.sizeOf9
  v29:=Tryz.zeroValue9
  t32:=Tryz.underlying162
  a32:=Tryz.isAgg162
  z32:=Tryz.sizeOf162
  v32:=Tryz.zeroValue162
  t35:=Tryz.underlying237
  a35:=Tryz.isAgg237
  z35:=Tryz.sizeOf237
  v35:=Tryz.zeroValue237
  t36:=Tryz.underlying238
  a36:=Tryz.isAgg238
  z36:=Tryz.sizeOf238
  v36:=Tryz.zeroValue238
  t41:=Tryz.underlying242
  a41:=Tryz.isAgg242
  z41:=Tryz.sizeOf242
  v41:=Tryz.zeroValue242
  t44:=Tryz.underlying110
  a44:=Tryz.isAgg110
  z44:=Tryz.sizeOf110
  v44:=Tryz.zeroValue110
  t46:=Tryz.underlying114
  a46:=Tryz.isAgg114
  z46:=Tryz.sizeOf114
  v46:=Tryz.zeroValue114
  t53:=Tryz.underlying289
  a53:=Tryz.isAgg289
  z53:=Tryz.sizeOf289
  v53:=Tryz.zeroValue289
  t57:=Tryz.underlying293
  a57:=Tryz.isAgg293
  z57:=Tryz.sizeOf293
  v57:=Tryz.zeroValue293
  t63:=Tryz.underlying309
  a63:=Tryz.isAgg309
  z63:=Tryz.sizeOf309
  v63:=Tryz.zeroValue309
  t64:=Tryz.underlying139
  a64:=Tryz.isAgg139
  z64:=Tryz.sizeOf139
  v64:=Tryz.zeroValue139 }
def Tryz.keys82_ren:Go.Shelf.Ren:=⟨fun | 7=>82 | 10=>122 | n=>n,fun | 23=>141 | 26=>9 | 3=>77 | 28=>45 | 0=>0 | 27=>44 | 33=>122 | 4=>4 | n=>n,fun | n=>n⟩
theorem Tryz.keys82:Go.Proofs.SlLaysZ.n7 Tryz.prog Tryz.keys82_ren:={
  mixed:=by kernel_rfl
  f7:=⟨Tryz.f82.name,by decide,Tryz.func82.trans (congrArg some (by kernel_rfl))⟩
  f10:=⟨Tryz.f122.name,by decide,Tryz.func122.trans (congrArg some (by kernel_rfl))⟩
  t0:=Tryz.underlying0
  a0:=Tryz.isAgg0
  z0:=Tryz.sizeOf0
  v0:=Tryz.zeroValue0
  t4:=Tryz.underlying4
  a4:=Tryz.isAgg4
  z4:=Tryz.sizeOf4
  v4:=Tryz.zeroValue4
  t23:=Tryz.underlying141
  a23:=Tryz.isAgg141
  z23:=Tryz.sizeOf141
  v23:=Tryz.zeroValue141
  t26:=Tryz.underlying9
  a26:=Tryz.isAgg9
  z26:=Tryz.sizeOf9
  v26:=Tryz.zeroValue9
  t27:=Tryz.underlying44
  a27:=Tryz.isAgg44
  z27:=Tryz.sizeOf44
  v27:=Tryz.zeroValue44
  t28:=Tryz.underlying45
  a28:=Tryz.isAgg45
  z28:=Tryz.sizeOf45
  v28:=Tryz.zeroValue45
  t33:=Tryz.underlying122
  a33:=Tryz.isAgg122
  z33:=Tryz.sizeOf122
  v33:=Tryz.zeroValue122 }
def Tryz.keys102_ren:Go.Shelf.Ren:=⟨fun | 7=>102 | 10=>143 | n=>n,fun | 23=>166 | 26=>9 | 3=>3 | 28=>45 | 0=>0 | 27=>44 | 33=>122 | 4=>4 | n=>n,fun | n=>n⟩
theorem Tryz.keys102:Go.Proofs.SlLaysZ.n7 Tryz.prog Tryz.keys102_ren:={
  mixed:=by kernel_rfl
  f7:=⟨Tryz.f102.name,by decide,Tryz.func102.trans (congrArg some (by kernel_rfl))⟩
  f10:=⟨Tryz.f143.name,by decide,Tryz.func143.trans (congrArg some (by kernel_rfl))⟩
  t0:=Tryz.underlying0
  a0:=Tryz.isAgg0
  z0:=Tryz.sizeOf0
  v0:=Tryz.zeroValue0
  t4:=Tryz.underlying4
  a4:=Tryz.isAgg4
  z4:=Tryz.sizeOf4
  v4:=Tryz.zeroValue4
  t23:=Tryz.underlying166
  a23:=Tryz.isAgg166
  z23:=Tryz.sizeOf166
  v23:=Tryz.zeroValue166
  t26:=Tryz.underlying9
  a26:=Tryz.isAgg9
  z26:=Tryz.sizeOf9
  v26:=Tryz.zeroValue9
  t27:=Tryz.underlying44
  a27:=Tryz.isAgg44
  z27:=Tryz.sizeOf44
  v27:=Tryz.zeroValue44
  t28:=Tryz.underlying45
  a28:=Tryz.isAgg45
  z28:=Tryz.sizeOf45
  v28:=Tryz.zeroValue45
  t33:=Tryz.underlying122
  a33:=Tryz.isAgg122
  z33:=Tryz.sizeOf122
  v33:=Tryz.zeroValue122 }
open Go.RowKit Go.Maps Go.Sort
theorem Tryz.sortsAt (m:Nat):AnyZ.SortsIn Tryz.prog Tryz.sorted79_ren Fence.wide m:=
  ⟨fun blk off cap ss W hH hblk hsz=>callsIn_wide.2 (AnyM.slices_Sort_string Tryz.sort119 blk off cap ss W hH hblk hsz),
   fun p cap W=>callsIn_wide.2 (AnyM.slices_Sort_string_none Tryz.sort119 p cap W)⟩
theorem Tryz.maps_KeysL (mb:Option Nat) (W:World):CallsIn Fence.wide 5 Tryz.prog 80 #[.map mb] W fun e w'=>e = .returned (.func (.func 120) #[] #[.pointer (some ⟨W.heap.size,0,none⟩)])∧w'=W.alloc (.cells #[.map mb] 130):=
  AnyZ.keys_in Tryz.keys80 Fence.wide 5 trivial rfl mb W
set_option maxHeartbeats 1000000 in
theorem Tryz.sorted_keysL {H:Type} (b nn:Nat) (D0:DataW H) (R:Value→Option (DataW H × List MemPlace)) (w:World) (hown:w.ownsMap Tryz.prog 9 R b nn D0) (hmax:Maps.size D0≤maxLen) (hbytes:Maps.size D0 * 16≤140737488355328) :
    CallsIn Fence.wide 5 Tryz.prog 79 #[.func (.func 120) #[] #[.pointer (some ⟨w.heap.size,0,none⟩)]] (w.alloc (.cells #[.map (some b)] 130)) fun e w'=>∃ (v:Value) (ss:List (List UInt8)),e = .returned v∧ss.Perm (strKeys D0) ∧
      w'.ownsRow (w.alloc (.cells #[.map (some b)] 130)).heap.size 9 1 v ss.length ((ss.mergeSort (fun x y=>decide (x≤y))).map encStr)∧(v = .slice none 0 0 ↔ ss=[])∧Below (w.alloc (.cells #[.map (some b)] 130)).heap.size (w.alloc (.cells #[.map (some b)] 130)) w':=by
  have hbl:=hown.lt
  have hseq:SeqGives Fence.wide 2 Tryz.prog 120 #[.pointer (some ⟨w.heap.size,0,none⟩)] encStr (fun ss=>ss.Perm (strKeys D0)) (Maps.size D0) (w.alloc (.cells #[.map (some b)] 130)):=
    AnyZ.keys_gives (ρ:=Tryz.keys80_ren) { Tryz.keys80 with } Fence.wide _ trivial rfl (by omega) w.heap.size b nn D0 _ (by simp) (by simp) (by
      obtain ⟨es,clock,hb,Ft,hs,hD⟩:=hown
      exact ⟨es,clock,(Below.heap_alloc _ _ b hbl).trans hb,Ft,hs,hD⟩)
  exact AnyZ.sorted_in Tryz.sorted79 Fence.wide 5 trivial trivial trivial trivial rfl (by omega) (Tryz.sortsAt _) (enters_of Tryz.func119 (by kernel_rfl) rfl) 120 #[.pointer (some ⟨w.heap.size,0,none⟩)] trivial (enters_of Tryz.func120 (by kernel_rfl) rfl) _ _ hmax hbytes _ hseq
theorem Tryz.maps_KeysC (mb:Option Nat) (W:World):CallsIn Fence.wide 5 Tryz.prog 82 #[.map mb] W fun e w'=>e = .returned (.func (.func 122) #[] #[.pointer (some ⟨W.heap.size,0,none⟩)])∧w'=W.alloc (.cells #[.map mb] 141):=
  AnyZ.keys_in Tryz.keys82 Fence.wide 5 trivial rfl mb W
set_option maxHeartbeats 1000000 in
theorem Tryz.sorted_keysC {H:Type} (b nn:Nat) (D0:DataW H) (R:Value→Option (DataW H × List MemPlace)) (w:World) (hown:w.ownsMap Tryz.prog 9 R b nn D0) (hmax:Maps.size D0≤maxLen) (hbytes:Maps.size D0 * 16≤140737488355328) :
    CallsIn Fence.wide 5 Tryz.prog 79 #[.func (.func 122) #[] #[.pointer (some ⟨w.heap.size,0,none⟩)]] (w.alloc (.cells #[.map (some b)] 141)) fun e w'=>∃ (v:Value) (ss:List (List UInt8)),e = .returned v∧ss.Perm (strKeys D0) ∧
      w'.ownsRow (w.alloc (.cells #[.map (some b)] 141)).heap.size 9 1 v ss.length ((ss.mergeSort (fun x y=>decide (x≤y))).map encStr)∧(v = .slice none 0 0 ↔ ss=[])∧Below (w.alloc (.cells #[.map (some b)] 141)).heap.size (w.alloc (.cells #[.map (some b)] 141)) w':=by
  have hbl:=hown.lt
  have hseq:SeqGives Fence.wide 2 Tryz.prog 122 #[.pointer (some ⟨w.heap.size,0,none⟩)] encStr (fun ss=>ss.Perm (strKeys D0)) (Maps.size D0) (w.alloc (.cells #[.map (some b)] 141)):=
    AnyZ.keys_gives (ρ:=Tryz.keys82_ren) { Tryz.keys82 with } Fence.wide _ trivial rfl (by omega) w.heap.size b nn D0 _ (by simp) (by simp) (by
      obtain ⟨es,clock,hb,Ft,hs,hD⟩:=hown
      exact ⟨es,clock,(Below.heap_alloc _ _ b hbl).trans hb,Ft,hs,hD⟩)
  exact AnyZ.sorted_in Tryz.sorted79 Fence.wide 5 trivial trivial trivial trivial rfl (by omega) (Tryz.sortsAt _) (enters_of Tryz.func119 (by kernel_rfl) rfl) 122 #[.pointer (some ⟨w.heap.size,0,none⟩)] trivial (enters_of Tryz.func122 (by kernel_rfl) rfl) _ _ hmax hbytes _ hseq
theorem Tryz.maps_Keys (mb:Option Nat) (W:World):CallsIn Fence.wide 5 Tryz.prog 102 #[.map mb] W fun e w'=>e = .returned (.func (.func 143) #[] #[.pointer (some ⟨W.heap.size,0,none⟩)])∧w'=W.alloc (.cells #[.map mb] 166):=
  AnyZ.keys_in Tryz.keys102 Fence.wide 5 trivial rfl mb W
set_option maxHeartbeats 1000000 in
theorem Tryz.sorted_keys {H:Type} (b nn:Nat) (D0:DataW H) (R:Value→Option (DataW H × List MemPlace)) (w:World) (hown:w.ownsMap Tryz.prog 9 R b nn D0) (hmax:Maps.size D0≤maxLen) (hbytes:Maps.size D0 * 16≤140737488355328) :
    CallsIn Fence.wide 5 Tryz.prog 79 #[.func (.func 143) #[] #[.pointer (some ⟨w.heap.size,0,none⟩)]] (w.alloc (.cells #[.map (some b)] 166)) fun e w'=>∃ (v:Value) (ss:List (List UInt8)),e = .returned v∧ss.Perm (strKeys D0) ∧
      w'.ownsRow (w.alloc (.cells #[.map (some b)] 166)).heap.size 9 1 v ss.length ((ss.mergeSort (fun x y=>decide (x≤y))).map encStr)∧(v = .slice none 0 0 ↔ ss=[])∧Below (w.alloc (.cells #[.map (some b)] 166)).heap.size (w.alloc (.cells #[.map (some b)] 166)) w':=by
  have hbl:=hown.lt
  have hseq:SeqGives Fence.wide 2 Tryz.prog 143 #[.pointer (some ⟨w.heap.size,0,none⟩)] encStr (fun ss=>ss.Perm (strKeys D0)) (Maps.size D0) (w.alloc (.cells #[.map (some b)] 166)):=
    AnyZ.keys_gives (ρ:=Tryz.keys102_ren) { Tryz.keys102 with } Fence.wide _ trivial rfl (by omega) w.heap.size b nn D0 _ (by simp) (by simp) (by
      obtain ⟨es,clock,hb,Ft,hs,hD⟩:=hown
      exact ⟨es,clock,(Below.heap_alloc _ _ b hbl).trans hb,Ft,hs,hD⟩)
  exact AnyZ.sorted_in Tryz.sorted79 Fence.wide 5 trivial trivial trivial trivial rfl (by omega) (Tryz.sortsAt _) (enters_of Tryz.func119 (by kernel_rfl) rfl) 143 #[.pointer (some ⟨w.heap.size,0,none⟩)] trivial (enters_of Tryz.func143 (by kernel_rfl) rfl) _ _ hmax hbytes _ hseq
end Go.Proofs
