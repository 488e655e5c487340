/-  -/
import Derived.Test.YtbleojodidbhiaaGreatDoorBnA
import Derived.Sort.KeysCollected
import Derived.Shelf.SlGeneric
import Derived.Shelf.SlIter.Nil
import Derived.Shelf.SortM.Plain
import Derived.Shelf.SortM.SortNone
import Derived.Ground.GgzProg
import Derived.Ground.SlgmProg
import Derived.Test.YtbleojodidbhiaaGreatDoorProg
namespace Go.Proofs.YtbleojodidbhiaaGreatDoor
open Go.RowKit Go.Maps
theorem own_lenK {w:World} {B:Nat} {T:TypeId} {m n:Nat} {v:Value} {xs:List Value} (h:w.ownsRow B T m v n xs):∃ ad n' cap,v = .slice ad n' cap:=by
 rcases h.2 with ⟨rfl,_⟩ | ⟨g,cap,cur,rfl,_⟩
 ·exact ⟨_,_,_,rfl⟩
 ·exact ⟨_,_,_,rfl⟩
theorem enc_flatK:∀ ks:List ByteArray,(ks.map fun x:ByteArray=>x.data.toList).map Go.Proofs.encStr=ks.flatMap fun x=>[Value.string x]
 | []=>rfl
 | k :: ks=>by
  have e:Go.Proofs.encStr k.data.toList = .string k:=by cases k;rfl
  simp only [List.map_cons,List.flatMap_cons,enc_flatK ks,e]
  rfl
section
variable {W:World} {mb n:Nat} {D:DataW Value}
theorem str_keys (h:W.ownsMap Tryz.prog 9 heldE mb n D):(strKeys D).Nodup∧∀ x,x ∈ strKeys D ↔ has D (.string x)=true:=by
 obtain ⟨es,hD,hpw,_⟩:=h.entries law_strT
 obtain ⟨es',hD',hko⟩:=h.keysOf
 obtain rfl:es=es':=by rw [hD] at hD';simpa using hD'
 subst hD
 have hk:∀ p ∈ es,∃ x,p.1 = .string x:=fun p hp=>by
  obtain ⟨v,hv⟩:=hko p hp
  obtain ⟨x,_,hx,_⟩:=Maps.keyOf_str Tryz.underlying9 hv
  exact ⟨x,hx⟩
 constructor
 ·show (es.map fun p=>strOf p.1).Nodup
  refine List.pairwise_map.2 (hpw.imp_of_mem fun {p q} hp' hq' hne e=>hne ?_)
  obtain ⟨a,ha⟩:=hk p hp'
  obtain ⟨b,hb⟩:=hk q hq'
  rw [ha,hb] at e ⊢
  exact congrArg _ e
 ·intro x
  rw [has_eq,List.any_eq_true]
  show x ∈ es.map (fun p=>strOf p.1) ↔ _
  rw [List.mem_map]
  constructor
  ·rintro ⟨p,hp',rfl⟩
   obtain ⟨a,ha⟩:=hk p hp'
   exact ⟨p,hp',by rw [ha];simp [Lit.sameKey,strOf]⟩
  ·rintro ⟨p,hp',hs⟩
   obtain ⟨a,ha⟩:=hk p hp'
   rw [ha] at hs
   exact ⟨p,hp',by rw [ha];simpa [Lit.sameKey,strOf] using hs⟩
def baOf (l:List UInt8):ByteArray:=⟨l.toArray⟩
theorem baOf_data (l:List UInt8):(baOf l).data.toList=l:=rfl
theorem baOf_of (x:ByteArray):baOf x.data.toList=x:=by cases x;rfl
theorem baOf_inj {a b:List UInt8} (h:baOf a=baOf b):a=b:=by rw [← baOf_data a,h,baOf_data]
structure Keys (dom:ByteArray→Prop) (ks:List ByteArray):Prop where
 nodup:ks.Nodup
 mem:∀ x,x ∈ ks ↔ dom x
 sorted:ks.Pairwise fun a b=>a.data.toList≤b.data.toList
end
theorem keysD {W:World} {mb n:Nat} {D:DataW Value} {dom:ByteArray→Prop} (h:W.ownsMap Tryz.prog 9 heldE mb n D) (hd:∀ x,has D (keyB x)=true ↔ dom x) {ss:List (List UInt8)} (hs:ss.Perm (strKeys D)):∃ ks:List ByteArray,Keys dom ks∧ss.mergeSort (fun x y=>decide (x≤y))=ks.map (fun x=>x.data.toList):=by
 obtain ⟨hn,hm⟩:=str_keys h
 have tr:∀ a b c:List UInt8,leB a b=true→leB b c=true→leB a c=true:=fun a b c h1 h2=>by simp only [leB,decide_eq_true_eq] at *;exact List.le_trans h1 h2
 have to':∀ a b:List UInt8,(leB a b || leB b a)=true:=fun a b=>by simp only [leB,Bool.or_eq_true,decide_eq_true_eq];exact List.le_total a b
 have hp:(ss.mergeSort leB).Perm (strKeys D):=(List.mergeSort_perm ss leB).trans hs
 have hpw:=List.pairwise_mergeSort tr to' ss
 refine ⟨(ss.mergeSort leB).map baOf,⟨?_,fun x=>?_,?_⟩,?_⟩
 ·refine List.pairwise_map.2 ((hp.nodup_iff.2 hn).imp fun hne e=>hne (baOf_inj e))
 ·rw [← hd x,List.mem_map]
  show _ ↔ has D (.string x.data.toList)=true
  rw [← hm,← hp.mem_iff]
  constructor
  ·rintro ⟨l,hl,rfl⟩;exact hl
  ·intro hx;exact ⟨_,hx,baOf_of x⟩
 ·refine List.pairwise_map.2 (hpw.imp fun {a b} hab=>?_)
  simpa [leB,baOf_data] using hab
 ·rw [List.map_map]
  have e:((fun x:ByteArray=>x.data.toList) ∘ baOf)=id:=by funext l;rfl
  rw [e,List.map_id]
end Go.Proofs.YtbleojodidbhiaaGreatDoor
namespace Go.Proofs
open Go.Shelf
def Tryz.keys174_ren:Go.Shelf.Ren:=⟨fun | 7=>174 | 10=>216 | n=>n,fun | 23=>221 | 26=>9 | 3=>229 | 28=>84 | 0=>0 | 27=>83 | 33=>26 | 4=>4 | n=>n,fun | n=>n⟩
theorem Tryz.keys174:Go.Proofs.SlLaysZ.n7 Tryz.prog Tryz.keys174_ren:={
  mixed:=by kernel_rfl
  f7:=⟨Tryz.f174.name,by decide,Tryz.func174.trans (congrArg some (by kernel_rfl))⟩
  f10:=⟨Tryz.f216.name,by decide,Tryz.func216.trans (congrArg some (by kernel_rfl))⟩
  t0:=Tryz.underlying0
  a0:=Tryz.isAgg0
  z0:=Tryz.sizeOf0
  v0:=Tryz.zeroValue0
  t4:=Tryz.underlying4
  a4:=Tryz.isAgg4
  z4:=Tryz.sizeOf4
  v4:=Tryz.zeroValue4
  t23:=Tryz.underlying221
  a23:=Tryz.isAgg221
  z23:=Tryz.sizeOf221
  v23:=Tryz.zeroValue221
  t26:=Tryz.underlying9
  a26:=Tryz.isAgg9
  z26:=Tryz.sizeOf9
  v26:=Tryz.zeroValue9
  t27:=Tryz.underlying83
  a27:=Tryz.isAgg83
  z27:=Tryz.sizeOf83
  v27:=Tryz.zeroValue83
  t28:=Tryz.underlying84
  a28:=Tryz.isAgg84
  z28:=Tryz.sizeOf84
  v28:=Tryz.zeroValue84
  t33:=Tryz.underlying26
  a33:=Tryz.isAgg26
  z33:=Tryz.sizeOf26
  v33:=Tryz.zeroValue26 }
def Tryz.sorted173_ren:Go.Shelf.Ren:=⟨fun | 6=>173 | 8=>214 | 9=>215 | 11=>247 | 13=>93 | 12=>248 | 23=>156 | 24=>157 | 14=>267 | 15=>268 | 16=>269 | 17=>270 | 18=>271 | 19=>272 | 20=>273 | 21=>274 | 22=>275 | 25=>285 | 26=>198 | 27=>199 | 28=>286 | 29=>287 | 30=>288 | 31=>291 | n=>n,fun | 26=>9 | 28=>84 | 24=>22 | 0=>0 | 3=>3 | 37=>73 | 48=>109 | 50=>190 | 4=>4 | 40=>202 | 39=>201 | 45=>206 | 5=>5 | 9=>9 | 51=>250 | 55=>254 | 57=>276 | 58=>230 | 33=>26 | n=>n,fun | n=>n⟩
theorem Tryz.sorted173:Go.Proofs.SlLaysZ.n6 Tryz.prog Tryz.sorted173_ren:={
  mixed:=by kernel_rfl
  f6:=⟨Tryz.f173.name,by decide,Tryz.func173.trans (congrArg some (by kernel_rfl))⟩
  f8:=⟨Tryz.f214.name,by decide,Tryz.func214.trans (congrArg some (by kernel_rfl))⟩
  f11:=⟨Tryz.f247.name,by decide,Tryz.func247.trans (congrArg some (by kernel_rfl))⟩
  t0:=Tryz.underlying0
  a0:=Tryz.isAgg0
  z0:=Tryz.sizeOf0
  v0:=Tryz.zeroValue0
  t24:=Tryz.underlying22
  a24:=Tryz.isAgg22
  z24:=Tryz.sizeOf22
  v24:=Tryz.zeroValue22
  t26:=Tryz.underlying9
  a26:=Tryz.isAgg9
  z26:=Tryz.sizeOf9
  v26:=Tryz.zeroValue9
  t28:=Tryz.underlying84
  a28:=Tryz.isAgg84
  z28:=Tryz.sizeOf84
  v28:=Tryz.zeroValue84
  i26:=by kernel_rfl }
def Tryz.sort215_ren:Go.Shelf.Ren:=⟨fun | 6=>215 | 8=>93 | 9=>248 | 19=>156 | 20=>157 | 21=>267 | 22=>268 | 23=>269 | 24=>270 | 25=>271 | 26=>272 | 27=>273 | 28=>274 | 29=>275 | 36=>285 | 31=>198 | 32=>199 | 37=>286 | 38=>287 | 39=>288 | 41=>291 | n=>n,fun | 27=>22 | 29=>9 | 3=>3 | 32=>73 | 26=>22 | 0=>0 | 44=>109 | 46=>190 | 4=>4 | 36=>202 | 35=>201 | 41=>206 | 5=>5 | 9=>9 | 53=>250 | 57=>254 | 63=>276 | 64=>230 | n=>n,fun | n=>n⟩
theorem Tryz.sort215:Go.Proofs.SlLaysM.n6 Tryz.prog Tryz.sort215_ren:={
  mixed:=by kernel_rfl
  f6:=⟨Tryz.f215.name,by decide,Tryz.func215.trans (congrArg some (by kernel_rfl))⟩
  f8:=Tryz.func93.trans (congrArg some (by kernel_rfl))
  f9:=⟨Tryz.f248.name,by decide,Tryz.func248.trans (congrArg some (by kernel_rfl))⟩
  f19:=Tryz.func156.trans (congrArg some (by kernel_rfl))
  f20:=Tryz.func157.trans (congrArg some (by kernel_rfl))
  f21:=⟨Tryz.f267.name,by decide,Tryz.func267.trans (congrArg some (by kernel_rfl))⟩
  f22:=⟨Tryz.f268.name,by decide,Tryz.func268.trans (congrArg some (by kernel_rfl))⟩
  f23:=⟨Tryz.f269.name,by decide,Tryz.func269.trans (congrArg some (by kernel_rfl))⟩
  f24:=⟨Tryz.f270.name,by decide,Tryz.func270.trans (congrArg some (by kernel_rfl))⟩
  f25:=⟨Tryz.f271.name,by decide,Tryz.func271.trans (congrArg some (by kernel_rfl))⟩
  f26:=⟨Tryz.f272.name,by decide,Tryz.func272.trans (congrArg some (by kernel_rfl))⟩
  f27:=⟨Tryz.f273.name,by decide,Tryz.func273.trans (congrArg some (by kernel_rfl))⟩
  f28:=⟨Tryz.f274.name,by decide,Tryz.func274.trans (congrArg some (by kernel_rfl))⟩
  f29:=⟨Tryz.f275.name,by decide,Tryz.func275.trans (congrArg some (by kernel_rfl))⟩
  f31:=Tryz.func198.trans (congrArg some (by kernel_rfl))
  f32:=Tryz.func199.trans (congrArg some (by kernel_rfl))
  f36:=⟨Tryz.f285.name,by decide,Tryz.func285.trans (congrArg some (by kernel_rfl))⟩
  f37:=⟨Tryz.f286.name,by decide,Tryz.func286.trans (congrArg some (by kernel_rfl))⟩
  f38:=⟨Tryz.f287.name,by decide,Tryz.func287.trans (congrArg some (by kernel_rfl))⟩
  f39:=⟨Tryz.f288.name,by decide,Tryz.func288.trans (congrArg some (by kernel_rfl))⟩
  f41:=⟨Tryz.f291.name,by decide,Tryz.func291.trans (congrArg some (by kernel_rfl))⟩
  t0:=Tryz.underlying0
  a0:=Tryz.isAgg0
  z0:=Tryz.sizeOf0
  v0:=Tryz.zeroValue0
  t3:=Tryz.underlying3
  a3:=Tryz.isAgg3
  z3:=Tryz.sizeOf3
  v3:=Tryz.zeroValue3
  t4:=Tryz.underlying4
  a4:=Tryz.isAgg4
  z4:=Tryz.sizeOf4
  v4:=Tryz.zeroValue4
  t5:=Tryz.underlying5
  a5:=Tryz.isAgg5
  z5:=Tryz.sizeOf5
  v5:=Tryz.zeroValue5
  t9:=Tryz.underlying9
  a9:=Tryz.isAgg9
  z9:=Tryz.sizeOf9
  v9:=Tryz.zeroValue9
  t26:=Tryz.underlying22
  a26:=Tryz.isAgg22
  z26:=Tryz.sizeOf22
  v26:=Tryz.zeroValue22
  t27:=Tryz.underlying22
  a27:=Tryz.isAgg22
  z27:=Tryz.sizeOf22
  v27:=Tryz.zeroValue22
  t29:=Tryz.underlying9
  a29:=Tryz.isAgg9
  z29:=Tryz.sizeOf9
  v29:=Tryz.zeroValue9
  t32:=Tryz.underlying73
  a32:=Tryz.isAgg73
  z32:=Tryz.sizeOf73
  v32:=Tryz.zeroValue73
  t35:=Tryz.underlying201
  a35:=Tryz.isAgg201
  z35:=Tryz.sizeOf201
  v35:=Tryz.zeroValue201
  t36:=Tryz.underlying202
  a36:=Tryz.isAgg202
  z36:=Tryz.sizeOf202
  v36:=Tryz.zeroValue202
  t41:=Tryz.underlying206
  a41:=Tryz.isAgg206
  z41:=Tryz.sizeOf206
  v41:=Tryz.zeroValue206
  t44:=Tryz.underlying109
  a44:=Tryz.isAgg109
  z44:=Tryz.sizeOf109
  v44:=Tryz.zeroValue109
  t46:=Tryz.underlying190
  a46:=Tryz.isAgg190
  z46:=Tryz.sizeOf190
  v46:=Tryz.zeroValue190
  t53:=Tryz.underlying250
  a53:=Tryz.isAgg250
  z53:=Tryz.sizeOf250
  v53:=Tryz.zeroValue250
  t57:=Tryz.underlying254
  a57:=Tryz.isAgg254
  z57:=Tryz.sizeOf254
  v57:=Tryz.zeroValue254
  t63:=Tryz.underlying276
  a63:=Tryz.isAgg276
  z63:=Tryz.sizeOf276
  v63:=Tryz.zeroValue276
  t64:=Tryz.underlying230
  a64:=Tryz.isAgg230
  z64:=Tryz.sizeOf230
  v64:=Tryz.zeroValue230 }
def Tryz.keys176_ren:Go.Shelf.Ren:=⟨fun | 7=>176 | 10=>218 | n=>n,fun | 23=>232 | 26=>9 | 3=>166 | 28=>84 | 0=>0 | 27=>83 | 33=>26 | 4=>4 | n=>n,fun | n=>n⟩
theorem Tryz.keys176:Go.Proofs.SlLaysZ.n7 Tryz.prog Tryz.keys176_ren:={
  mixed:=by kernel_rfl
  f7:=⟨Tryz.f176.name,by decide,Tryz.func176.trans (congrArg some (by kernel_rfl))⟩
  f10:=⟨Tryz.f218.name,by decide,Tryz.func218.trans (congrArg some (by kernel_rfl))⟩
  t0:=Tryz.underlying0
  a0:=Tryz.isAgg0
  z0:=Tryz.sizeOf0
  v0:=Tryz.zeroValue0
  t4:=Tryz.underlying4
  a4:=Tryz.isAgg4
  z4:=Tryz.sizeOf4
  v4:=Tryz.zeroValue4
  t23:=Tryz.underlying232
  a23:=Tryz.isAgg232
  z23:=Tryz.sizeOf232
  v23:=Tryz.zeroValue232
  t26:=Tryz.underlying9
  a26:=Tryz.isAgg9
  z26:=Tryz.sizeOf9
  v26:=Tryz.zeroValue9
  t27:=Tryz.underlying83
  a27:=Tryz.isAgg83
  z27:=Tryz.sizeOf83
  v27:=Tryz.zeroValue83
  t28:=Tryz.underlying84
  a28:=Tryz.isAgg84
  z28:=Tryz.sizeOf84
  v28:=Tryz.zeroValue84
  t33:=Tryz.underlying26
  a33:=Tryz.isAgg26
  z33:=Tryz.sizeOf26
  v33:=Tryz.zeroValue26 }
def Tryz.keys188_ren:Go.Shelf.Ren:=⟨fun | 7=>188 | 10=>225 | n=>n,fun | 23=>243 | 26=>9 | 3=>3 | 28=>84 | 0=>0 | 27=>83 | 33=>26 | 4=>4 | n=>n,fun | n=>n⟩
theorem Tryz.keys188:Go.Proofs.SlLaysZ.n7 Tryz.prog Tryz.keys188_ren:={
  mixed:=by kernel_rfl
  f7:=⟨Tryz.f188.name,by decide,Tryz.func188.trans (congrArg some (by kernel_rfl))⟩
  f10:=⟨Tryz.f225.name,by decide,Tryz.func225.trans (congrArg some (by kernel_rfl))⟩
  t0:=Tryz.underlying0
  a0:=Tryz.isAgg0
  z0:=Tryz.sizeOf0
  v0:=Tryz.zeroValue0
  t4:=Tryz.underlying4
  a4:=Tryz.isAgg4
  z4:=Tryz.sizeOf4
  v4:=Tryz.zeroValue4
  t23:=Tryz.underlying243
  a23:=Tryz.isAgg243
  z23:=Tryz.sizeOf243
  v23:=Tryz.zeroValue243
  t26:=Tryz.underlying9
  a26:=Tryz.isAgg9
  z26:=Tryz.sizeOf9
  v26:=Tryz.zeroValue9
  t27:=Tryz.underlying83
  a27:=Tryz.isAgg83
  z27:=Tryz.sizeOf83
  v27:=Tryz.zeroValue83
  t28:=Tryz.underlying84
  a28:=Tryz.isAgg84
  z28:=Tryz.sizeOf84
  v28:=Tryz.zeroValue84
  t33:=Tryz.underlying26
  a33:=Tryz.isAgg26
  z33:=Tryz.sizeOf26
  v33:=Tryz.zeroValue26 }
open Go.RowKit Go.Maps Go.Sort
theorem Tryz.sortsAt (m:Nat):AnyZ.SortsIn Tryz.prog Tryz.sorted173_ren Fence.wide m:=
  ⟨fun blk off cap ss W hH hblk hsz=>callsIn_wide.2 (AnyM.slices_Sort_string Tryz.sort215 blk off cap ss W hH hblk hsz),
   fun p cap W=>callsIn_wide.2 (AnyM.slices_Sort_string_none Tryz.sort215 p cap W)⟩
theorem Tryz.maps_KeysL (mb:Option Nat) (W:World):CallsIn Fence.wide 5 Tryz.prog 174 #[.map mb] W fun e w'=>e = .returned (.func (.func 216) #[] #[.pointer (some ⟨W.heap.size,0,none⟩)])∧w'=W.alloc (.cells #[.map mb] 221):=
  AnyZ.keys_in Tryz.keys174 Fence.wide 5 trivial rfl mb W
set_option maxHeartbeats 1000000 in
theorem Tryz.sorted_keysL {H:Type} (b nn:Nat) (D0:DataW H) (R:Value→Option (DataW H × List MemPlace)) (w:World) (hown:w.ownsMap Tryz.prog 9 R b nn D0) (hmax:Maps.size D0≤maxLen) (hbytes:Maps.size D0 * 16≤140737488355328) :
    CallsIn Fence.wide 5 Tryz.prog 173 #[.func (.func 216) #[] #[.pointer (some ⟨w.heap.size,0,none⟩)]] (w.alloc (.cells #[.map (some b)] 221)) fun e w'=>∃ (v:Value) (ss:List (List UInt8)),e = .returned v∧ss.Perm (strKeys D0) ∧
      w'.ownsRow (w.alloc (.cells #[.map (some b)] 221)).heap.size 9 1 v ss.length ((ss.mergeSort (fun x y=>decide (x≤y))).map encStr)∧(v = .slice none 0 0 ↔ ss=[])∧Below (w.alloc (.cells #[.map (some b)] 221)).heap.size (w.alloc (.cells #[.map (some b)] 221)) w':=by
  have hbl:=hown.lt
  have hseq:SeqGives Fence.wide 2 Tryz.prog 216 #[.pointer (some ⟨w.heap.size,0,none⟩)] encStr (fun ss=>ss.Perm (strKeys D0)) (Maps.size D0) (w.alloc (.cells #[.map (some b)] 221)):=
    AnyZ.keys_gives (ρ:=Tryz.keys174_ren) { Tryz.keys174 with } Fence.wide _ trivial rfl (by omega) w.heap.size b nn D0 _ (by simp) (by simp) (by
      obtain ⟨es,clock,hb,Ft,hs,hD⟩:=hown
      exact ⟨es,clock,(Below.heap_alloc _ _ b hbl).trans hb,Ft,hs,hD⟩)
  exact AnyZ.sorted_in Tryz.sorted173 Fence.wide 5 trivial trivial trivial trivial rfl (by omega) (Tryz.sortsAt _) (enters_of Tryz.func215 (by kernel_rfl) rfl) 216 #[.pointer (some ⟨w.heap.size,0,none⟩)] trivial (enters_of Tryz.func216 (by kernel_rfl) rfl) _ _ hmax hbytes _ hseq
theorem Tryz.maps_KeysC (mb:Option Nat) (W:World):CallsIn Fence.wide 5 Tryz.prog 176 #[.map mb] W fun e w'=>e = .returned (.func (.func 218) #[] #[.pointer (some ⟨W.heap.size,0,none⟩)])∧w'=W.alloc (.cells #[.map mb] 232):=
  AnyZ.keys_in Tryz.keys176 Fence.wide 5 trivial rfl mb W
set_option maxHeartbeats 1000000 in
theorem Tryz.sorted_keysC {H:Type} (b nn:Nat) (D0:DataW H) (R:Value→Option (DataW H × List MemPlace)) (w:World) (hown:w.ownsMap Tryz.prog 9 R b nn D0) (hmax:Maps.size D0≤maxLen) (hbytes:Maps.size D0 * 16≤140737488355328) :
    CallsIn Fence.wide 5 Tryz.prog 173 #[.func (.func 218) #[] #[.pointer (some ⟨w.heap.size,0,none⟩)]] (w.alloc (.cells #[.map (some b)] 232)) fun e w'=>∃ (v:Value) (ss:List (List UInt8)),e = .returned v∧ss.Perm (strKeys D0) ∧
      w'.ownsRow (w.alloc (.cells #[.map (some b)] 232)).heap.size 9 1 v ss.length ((ss.mergeSort (fun x y=>decide (x≤y))).map encStr)∧(v = .slice none 0 0 ↔ ss=[])∧Below (w.alloc (.cells #[.map (some b)] 232)).heap.size (w.alloc (.cells #[.map (some b)] 232)) w':=by
  have hbl:=hown.lt
  have hseq:SeqGives Fence.wide 2 Tryz.prog 218 #[.pointer (some ⟨w.heap.size,0,none⟩)] encStr (fun ss=>ss.Perm (strKeys D0)) (Maps.size D0) (w.alloc (.cells #[.map (some b)] 232)):=
    AnyZ.keys_gives (ρ:=Tryz.keys176_ren) { Tryz.keys176 with } Fence.wide _ trivial rfl (by omega) w.heap.size b nn D0 _ (by simp) (by simp) (by
      obtain ⟨es,clock,hb,Ft,hs,hD⟩:=hown
      exact ⟨es,clock,(Below.heap_alloc _ _ b hbl).trans hb,Ft,hs,hD⟩)
  exact AnyZ.sorted_in Tryz.sorted173 Fence.wide 5 trivial trivial trivial trivial rfl (by omega) (Tryz.sortsAt _) (enters_of Tryz.func215 (by kernel_rfl) rfl) 218 #[.pointer (some ⟨w.heap.size,0,none⟩)] trivial (enters_of Tryz.func218 (by kernel_rfl) rfl) _ _ hmax hbytes _ hseq
theorem Tryz.maps_Keys (mb:Option Nat) (W:World):CallsIn Fence.wide 5 Tryz.prog 188 #[.map mb] W fun e w'=>e = .returned (.func (.func 225) #[] #[.pointer (some ⟨W.heap.size,0,none⟩)])∧w'=W.alloc (.cells #[.map mb] 243):=
  AnyZ.keys_in Tryz.keys188 Fence.wide 5 trivial rfl mb W
set_option maxHeartbeats 1000000 in
theorem Tryz.sorted_keys {H:Type} (b nn:Nat) (D0:DataW H) (R:Value→Option (DataW H × List MemPlace)) (w:World) (hown:w.ownsMap Tryz.prog 9 R b nn D0) (hmax:Maps.size D0≤maxLen) (hbytes:Maps.size D0 * 16≤140737488355328) :
    CallsIn Fence.wide 5 Tryz.prog 173 #[.func (.func 225) #[] #[.pointer (some ⟨w.heap.size,0,none⟩)]] (w.alloc (.cells #[.map (some b)] 243)) fun e w'=>∃ (v:Value) (ss:List (List UInt8)),e = .returned v∧ss.Perm (strKeys D0) ∧
      w'.ownsRow (w.alloc (.cells #[.map (some b)] 243)).heap.size 9 1 v ss.length ((ss.mergeSort (fun x y=>decide (x≤y))).map encStr)∧(v = .slice none 0 0 ↔ ss=[])∧Below (w.alloc (.cells #[.map (some b)] 243)).heap.size (w.alloc (.cells #[.map (some b)] 243)) w':=by
  have hbl:=hown.lt
  have hseq:SeqGives Fence.wide 2 Tryz.prog 225 #[.pointer (some ⟨w.heap.size,0,none⟩)] encStr (fun ss=>ss.Perm (strKeys D0)) (Maps.size D0) (w.alloc (.cells #[.map (some b)] 243)):=
    AnyZ.keys_gives (ρ:=Tryz.keys188_ren) { Tryz.keys188 with } Fence.wide _ trivial rfl (by omega) w.heap.size b nn D0 _ (by simp) (by simp) (by
      obtain ⟨es,clock,hb,Ft,hs,hD⟩:=hown
      exact ⟨es,clock,(Below.heap_alloc _ _ b hbl).trans hb,Ft,hs,hD⟩)
  exact AnyZ.sorted_in Tryz.sorted173 Fence.wide 5 trivial trivial trivial trivial rfl (by omega) (Tryz.sortsAt _) (enters_of Tryz.func215 (by kernel_rfl) rfl) 225 #[.pointer (some ⟨w.heap.size,0,none⟩)] trivial (enters_of Tryz.func225 (by kernel_rfl) rfl) _ _ hmax hbytes _ hseq
end Go.Proofs
