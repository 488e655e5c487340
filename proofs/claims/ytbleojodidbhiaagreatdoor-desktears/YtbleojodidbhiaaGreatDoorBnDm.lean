/-  -/
import Derived.Test.YtbleojodidbhiaaGreatDoorBnP
import Derived.Lib.FieldsP
import Derived.Lib.DecodeN
import Derived.Test.YtbleojodidbhiaaGreatDoorBnV
import Derived.Test.YtbleojodidbhiaaGreatDoorBnMon
import Derived.Test.YtbleojodidbhiaaGreatDoorHsM
import Derived.Test.YtbleojodidbhiaaGreatDoorBnJr
import Derived.Test.YtbleojodidbhiaaGreatDoorBnDf
import Derived.Test.YtbleojodidbhiaaGreatDoorBnAt
import Derived.Lib.Replace
import Derived.Test.YtbleojodidbhiaaGreatDoorBnM
namespace Go.Proofs.YtbleojodidbhiaaGreatDoor
open Go.RowKit
set_option maxHeartbeats 1000000 in
theorem hist1_any (x:Vr) (id:Int) (B:Nat) (w:World) (hB:B < w.heap.size) (hc:w.cell? ⟨B,0,none⟩=some (.int .i64 id)) :
  Calls Tryz.prog 183 #[vrV x,.pointer (some ⟨B,0,none⟩)] w fun e w'=>e = .returned (.bool (isH id x))∧Below w.heap.size w w':=by
 obtain ⟨⟨id2,item,kind,qty,price,ofI,day⟩,fr,tq⟩:=x
 unfold vrV isH
 simp only
 have hne:B ≠ w.heap.size:=by omega
 go_enter Tryz.func183,Tryz.ntmps183
 go_wp2
 go_ret
 refine ⟨?_,(Below.refl _ _).alloc (Nat.le_refl _) _⟩
 by_cases h:id2=id <;> simp [h]
set_option maxRecDepth 20000 in
set_option maxHeartbeats 4000000 in
theorem hist_any {B pb:Nat} {sv:Value} {b:Bk} {w:World} (h:BookAt w B pb sv b) (hl:b.vs.length≤1000000) (id:Int) :
  Calls Tryz.prog 128 #[.pointer (some ⟨pb,0,none⟩),.int .i64 id] w fun e w'=>∃ v,e = .returned v∧w'.ownsRow w.heap.size 95 9 v (b.vs.filter (isH id)).length ((b.vs.filter (isH id)).flatMap vrC)∧Below w.heap.size w w':=by
 obtain ⟨W,hW⟩:∃ W,W=w.alloc (.cells #[.int .i64 id] 3):=⟨_,rfl⟩
 have hBW:Below w.heap.size w W:=by rw [hW];exact (Below.refl _ _).alloc (Nat.le_refl _) _
 have hcw:W.cell? ⟨w.heap.size,0,none⟩=some (.int .i64 id):=by rw [hW];simp
 have hsw:w.heap.size < W.heap.size:=by rw [hW];simp
 have hth:=those_any (h.below hBW) hl 183 #[.pointer (some ⟨w.heap.size,0,none⟩)] (isH id) (enters_of Tryz.func183 (by kernel_rfl) rfl)
  (fun W' x hb=>hist1_any x id w.heap.size W' (Nat.lt_of_lt_of_le hsw hb.size) (below_cell hb hcw))
 clear h
 generalize b.vs.filter (isH id)=fs at hth
 go_enter Tryz.func128,Tryz.ntmps128
 go_wp2_with fail
 rw [← hW]
 refine hth.mono ?_
 rintro e w1 ⟨v1,rfl,hown1,hb1⟩
 have HX:Hid (w1.ownsRow w.heap.size 95 9 v1 fs.length (fs.flatMap vrC)):=own_below hown1 (Below.refl _ _) hBW.size
 clear hown1
 go_wp2
 go_ret
 exact ⟨v1,rfl,HX.out,hBW.trans (hb1.mono hBW.size)⟩
end Go.Proofs.YtbleojodidbhiaaGreatDoor
namespace Go.Proofs.YtbleojodidbhiaaGreatDoor
def fieldsFrom:List UInt8→Option (List UInt8)→List (List UInt8)
 | [],none=>[]
 | [],some c=>[c]
 | b :: r,st=>if b=32 then (match st with
   | none=>fieldsFrom r none
   | some c=>c :: fieldsFrom r none) else fieldsFrom r (some (st.getD [] ++ [b]))
theorem fields_cons (b:UInt8) (r:List UInt8) (st:Option (List UInt8)):fieldsFrom (b :: r) st=if b=32 then (match st with
   | none=>fieldsFrom r none
   | some c=>c :: fieldsFrom r none) else fieldsFrom r (some (st.getD [] ++ [b])):=by cases st <;> rfl
def fieldsL (l:List UInt8):List (List UInt8):=fieldsFrom l none
theorem fields_run:∀ (a r:List UInt8) (st:Option (List UInt8)),32 ∉ a→a ≠ []→fieldsFrom (a ++ r) st=fieldsFrom r (some (st.getD [] ++ a))
 | [],_,_,_,h=>absurd rfl h
 | b :: a,r,st,hn,_=>by
  have hb:¬ b=32:=fun e=>hn (by rw [e];exact List.mem_cons_self ..)
  have ha:32 ∉ a:=fun h=>hn (List.mem_cons_of_mem _ h)
  rw [List.cons_append,fields_cons,if_neg hb]
  by_cases e:a=[]
  ·subst e;rfl
  ·rw [fields_run a r _ ha e]
   simp
theorem dec_blank (s:ByteArray) (i:Nat) (h:s.get! i=32):Utf8.decode s i=(32,1):=by
 rw [Lib.decode_at,h]
 rfl
theorem dec_other (s:ByteArray) (i:Nat) (hi:i < s.size) (h:s.get! i ≠ 32):(Utf8.decode s i).1 ≠ 32∧1≤(Utf8.decode s i).2∧i + (Utf8.decode s i).2≤s.size∧∀ j,1≤j→j < (Utf8.decode s i).2→s.get! (i + j) ≠ 32:=by
 have hb:(s.get! i).toNat ≠ 32:=fun e=>h (UInt8.toNat_inj.1 e)
 have no:∀ x:UInt8,x.toNat / 64=2→x ≠ 32:=fun x hx e=>by rw [e] at hx;exact absurd hx (by decide)
 rw [Lib.decode_at]
 unfold Lib.decodeN
 repeat' split
 all_goals simp only
 all_goals refine ⟨by omega,by omega,by omega,fun j h1 h2=>?_⟩
 all_goals first
  | (exfalso;omega)
  | skip
 all_goals rename_i hq _
 ·obtain rfl:j=1:=by omega
  exact no _ hq.2.2
 ·have:j=1∨j=2:=by omega
  rcases this with rfl | rfl
  ·exact no _ hq.2.1.2
  ·exact no _ hq.2.2.2
 ·have:j=1∨j=2∨j=3:=by omega
  rcases this with rfl | rfl | rfl
  ·exact no _ hq.2.1.2
  ·exact no _ hq.2.2.1.2
  ·exact no _ hq.2.2.2.2
theorem get_list (s:ByteArray) (i:Nat) (hi:i < s.size):s.data.toList[i]?=some (s.get! i):=by
 have h:i < s.data.size:=hi
 have e:s.get! i=s.data[i]:=by
  show s.data[i]! = _
  rw [getElem!_pos s.data i h]
 rw [e,Array.getElem?_toList,Array.getElem?_eq_getElem h]
theorem ext_list (s:ByteArray) (a b:Nat):(s.extract a b).data.toList=(s.data.toList.drop a).take (b - a):=by
 rw [ByteArray.data_extract,Array.toList_extract]
theorem ext_grow (s:ByteArray) (a i w:Nat) (h:a≤i):(s.extract a (i + w)).data.toList=(s.extract a i).data.toList ++ (s.extract i (i + w)).data.toList:=by
 rw [ext_list,ext_list,ext_list,show i + w - a=(i - a) + w by omega,show i + w - i=w by omega,List.take_add,List.drop_drop,show a + (i - a)=i by omega]
theorem spans_fields (s:ByteArray):∀ (f pos:Nat) (st:Option Nat) (acc:List (Nat × Nat)),s.size≤pos + f→pos≤s.size→(∀ a,st=some a→a≤pos) →
  (Lib.closeSpans s (Lib.spansFromP (· == 32) s f pos st acc)).map (fun x=>(s.extract x.1 x.2).data.toList)=acc.map (fun x=>(s.extract x.1 x.2).data.toList) ++ fieldsFrom (s.data.toList.drop pos) (st.map fun a=>(s.extract a pos).data.toList)
 | f,pos,st,acc,hf,hp,hst=>by
  by_cases hlt:pos < s.size
  ·obtain ⟨f,rfl⟩:∃ g,f=g + 1:=⟨f - 1,by omega⟩
   have hg:=get_list s pos hlt
   have hd:s.data.toList.drop pos=s.get! pos :: s.data.toList.drop (pos + 1):=by
    rw [List.drop_eq_getElem_cons (by simpa using hlt)]
    congr 1
    have:=List.getElem?_eq_getElem (l:=s.data.toList) (i:=pos) (by simpa using hlt)
    rw [this] at hg
    simpa using hg
   unfold Lib.spansFromP
   rw [if_pos hlt]
   by_cases hb:s.get! pos=32
   ·rw [dec_blank s pos hb,if_pos (by rfl),hd,fields_cons,if_pos hb]
    cases st with
    | none=>
     simp only
     rw [spans_fields s f (pos + 1) none acc (by omega) (by omega) (fun a h=>by cases h)]
     rfl
    | some a=>
     simp only
     rw [spans_fields s f (pos + 1) none _ (by omega) (by omega) (fun a h=>by cases h),List.map_append]
     simp
   ·obtain ⟨h1,h2,h3,h4⟩:=dec_other s pos hlt hb
    obtain ⟨w,hw⟩:∃ w,w=(Utf8.decode s pos).2:=⟨_,rfl⟩
    rw [← hw] at h2 h3 h4
    have hne:¬ ((Utf8.decode s pos).1 == 32)=true:=by simpa using h1
    rw [if_neg hne,← hw]
    have ea:s.data.toList.drop pos=(s.extract pos (pos + w)).data.toList ++ s.data.toList.drop (pos + w):=by
     rw [ext_list,show pos + w - pos=w by omega,← List.drop_drop,List.take_append_drop]
    have hno:32 ∉ (s.extract pos (pos + w)).data.toList:=fun hm=>by
     rw [ext_list,show pos + w - pos=w by omega] at hm
     obtain ⟨j,hj,e⟩:=List.mem_iff_getElem.1 hm
     have hjw:j < w:=by rw [List.length_take] at hj;omega
     rw [List.getElem_take,List.getElem_drop] at e
     have hx:=get_list s (pos + j) (by omega)
     rw [List.getElem?_eq_getElem (by simp;omega)] at hx
     have hx':=Option.some.inj hx
     rw [e] at hx'
     by_cases h0:j=0
     ·subst h0;exact hb hx'.symm
     ·exact h4 j (by omega) hjw hx'.symm
    have hz:(s.extract pos (pos + w)).data.toList ≠ []:=fun e=>by
     have:=congrArg List.length e
     rw [ext_list,List.length_take,List.length_drop] at this
     simp at this
     omega
    rw [ea,fields_run _ _ _ hno hz]
    cases st with
    | none=>
     simp only
     rw [spans_fields s f (pos + w) (some pos) acc (by omega) h3 (fun a h=>by cases h;omega)]
     rfl
    | some a=>
     simp only
     rw [spans_fields s f (pos + w) (some a) acc (by omega) h3 (fun b h=>by cases h;have:=hst a rfl;omega)]
     simp only [Option.map_some,Option.getD_some]
     rw [ext_grow s a pos w (hst a rfl)]
  ·rw [Lib.spansFromP_end _ _ _ _ _ _ hlt,List.drop_eq_nil_of_le (by simp;omega)]
   have hps:pos=s.size:=by omega
   cases st with
   | none=>simp [Lib.closeSpans,fieldsFrom]
   | some a=>simp [Lib.closeSpans,fieldsFrom,hps]
theorem fields_is (l:List UInt8):Lib.goFieldsP (· == 32) ⟨l.toArray⟩=(fieldsL l).map fun t=>(⟨t.toArray⟩:ByteArray):=by
 have h:=spans_fields ⟨l.toArray⟩ (⟨l.toArray⟩:ByteArray).size 0 none [] (by omega) (by omega) (fun a h=>by cases h)
 simp only [List.map_nil,List.nil_append,Option.map_none,List.drop_zero] at h
 have e:Lib.goFieldsP (· == 32) ⟨l.toArray⟩=((Lib.spansOfP (· == 32) ⟨l.toArray⟩).map fun x=>((⟨l.toArray⟩:ByteArray).extract x.1 x.2).data.toList).map fun t=>(⟨t.toArray⟩:ByteArray):=by
  unfold Lib.goFieldsP
  rw [List.map_map]
  refine List.map_congr_left fun x _=>?_
  rfl
 rw [e]
 unfold Lib.spansOfP
 rw [h]
 rfl
theorem fields_no:∀ (l:List UInt8) (st:Option (List UInt8)),(∀ c,st=some c→32 ∉ c∧c ≠ [])→∀ t ∈ fieldsFrom l st,32 ∉ t∧t ≠ []
 | [],none,_,t,ht=>by cases ht
 | [],some c,h,t,ht=>by rw [fieldsFrom,List.mem_singleton] at ht;rw [ht];exact h c rfl
 | b :: r,st,h,t,ht=>by
  rw [fields_cons] at ht
  split at ht
  ·split at ht
   ·exact fields_no r none (fun c e=>by cases e) t ht
   ·rename_i c
    rcases List.mem_cons.1 ht with rfl | ht
    ·exact h t rfl
    ·exact fields_no r none (fun c e=>by cases e) t ht
  ·rename_i hb
   refine fields_no r _ (fun c e=>?_) t ht
   cases e
   refine ⟨fun hm=>?_,by simp⟩
   rcases List.mem_append.1 hm with hm | hm
   ·cases st with
    | none=>cases hm
    | some c=>exact (h c rfl).1 hm
   ·rw [List.mem_singleton] at hm;exact hb hm.symm
def joinB:List (List UInt8)→List UInt8
 | []=>[]
 | [t]=>t
 | t :: u :: r=>t ++ 32 :: joinB (u :: r)
theorem fields_join:∀ (ws:List (List UInt8)),(∀ t ∈ ws,32 ∉ t∧t ≠ [])→fieldsL (joinB ws)=ws
 | [],_=>rfl
 | [t],h=>by
  have ht:=h t (by simp)
  have:=fields_run t [] none ht.1 ht.2
  rw [List.append_nil] at this
  show fieldsFrom t none=[t]
  rw [this];rfl
 | t :: u :: r,h=>by
  have ht:=h t (by simp)
  have ih:=fields_join (u :: r) (fun x hx=>h x (List.mem_cons_of_mem _ hx))
  unfold fieldsL at ih ⊢
  rw [joinB,fields_run t _ none ht.1 ht.2,fields_cons,if_pos rfl]
  simp only [Option.getD_none,List.nil_append]
  rw [ih]
theorem join_len:∀ (l:List UInt8) (st:Option (List UInt8)),(joinB (fieldsFrom l st)).length≤l.length + (st.getD []).length∧(fieldsFrom l st).length≤l.length + st.toList.length
 | [],none=>⟨Nat.le_refl _,Nat.le_refl _⟩
 | [],some c=>by simp [fieldsFrom,joinB]
 | b :: r,st=>by
  rw [fields_cons]
  split
  ·have ih:=join_len r none
   split
   ·simp at ih ⊢;omega
   ·rename_i c
    cases hF:fieldsFrom r none with
    | nil=>simp [joinB]
    | cons x F=>
     rw [hF] at ih
     simp [joinB] at ih ⊢;omega
  ·have ih:=join_len r (some (st.getD [] ++ [b]))
   simp at ih ⊢
   refine ⟨by omega,?_⟩
   have:0≤st.toList.length:=Nat.zero_le _
   omega
theorem mem_join:∀ {ws:List (List UInt8)} {t:List UInt8},t ∈ ws→t.length≤(joinB ws).length
 | [x],t,h=>by rw [List.mem_singleton] at h;rw [h];exact Nat.le_refl _
 | x :: y :: r,t,h=>by
  rw [joinB,List.length_append,List.length_cons]
  rcases List.mem_cons.1 h with rfl | h
  ·omega
  ·have:=mem_join h
   omega
end Go.Proofs.YtbleojodidbhiaaGreatDoor
namespace Go.Proofs.YtbleojodidbhiaaGreatDoor
open Go.RowKit
def pline (p:Pst):List UInt8:=byt (amt p.amt) ++ [32] ++ p.deb.data.toList ++ [32,102,114,111,109,32] ++ p.cre.data.toList ++ [10]
def printL (ps:List Pst):List UInt8:=ps.flatMap pline
theorem strOf_byt (l:List Int):(strOfNums l).data.toList=byt l:=by simp [strOfNums,byt]
theorem amt_len (n:Int) (h0 : -9223372036854775808≤n) (h1:n≤9223372036854775807):(amt n).length≤25:=by
 unfold amt amtSize
 have:=wdN_le 20 (n.natAbs / 100) (by omega) (by omega)
 rw [List.length_append,List.length_append,List.length_cons,dg_length,dg_length]
 split <;> simp <;> omega
theorem amt_strsize (n:Int) (h0 : -9223372036854775808≤n) (h1:n≤9223372036854775807):(strOfNums (amt n)).size≤25:=by
 rw [strOfNums_size];exact amt_len n h0 h1
theorem pline_len (p:Pst) (h:I64 p.amt) (hd:p.deb.size≤1000) (hc:p.cre.size≤1000):(pline p).length≤2100:=by
 have:=amt_len p.amt h.1 h.2
 have e1:p.deb.data.toList.length=p.deb.size:=by simp
 have e2:p.cre.data.toList.length=p.cre.size:=by simp
 have e3:(byt (amt p.amt)).length=(amt p.amt).length:=by simp [byt]
 simp only [pline,List.length_append,e1,e2,e3,List.length_cons,List.length_nil]
 omega
theorem printL_len:∀ (ps:List Pst),(∀ p ∈ ps,I64 p.amt∧p.deb.size≤1000∧p.cre.size≤1000)→(printL ps).length≤ps.length * 2100
 | [],_=>by simp [printL]
 | p :: ps,h=>by
  have h1:=h p (List.mem_cons_self ..)
  have h2:=printL_len ps (fun q hq=>h q (List.mem_cons_of_mem _ hq))
  have h3:=pline_len p h1.1 h1.2.1 h1.2.2
  have e:printL (p :: ps)=pline p ++ printL ps:=rfl
  rw [e,List.length_append,List.length_cons,Nat.add_mul]
  omega
theorem printL_snoc {ps:List Pst} {k:Nat} (hk:k < ps.length):printL (ps.take (k + 1))=printL (ps.take k) ++ pline ps[k]:=by
 unfold printL
 rw [List.take_succ_eq_append_getElem hk,List.flatMap_append]
 simp
def dAt:List UInt8:=[97,116]
def dChange:List UInt8:=[99,104,97,110,103,101]
def dClosed:List UInt8:=[99,108,111,115,101,100]
def dDay:List UInt8:=[100,97,121]
def dEvents:List UInt8:=[101,118,101,110,116,115]
def dHelp:List UInt8:=[104,101,108,112]
def dHistory:List UInt8:=[104,105,115,116,111,114,121]
def dMoves:List UInt8:=[109,111,118,101,115]
def dMonths:List UInt8:=[109,111,110,116,104,115]
def dOpen:List UInt8:=[111,112,101,110]
def dSum:List UInt8:=[115,117,109]
def dTear:List UInt8:=[116,101,97,114]
def dTrial:List UInt8:=[116,114,105,97,108]
def dTurn:List UInt8:=[116,117,114,110]
def dOk:List UInt8:=[111,107]
def dError:List UInt8:=[101,114,114,111,114,32]
def dKnown:List UInt8:=[97,116,32,99,104,97,110,103,101,32,99,108,111,115,101,32,99,108,111,115,101,100,32,99,111,114,114,101,99,116,32,100,97,121,32,101,118,101,110,116,115,32,104,101,108,112,32,104,105,115,116,111,114,121,32,109,111,118,101,115,32,109,111,110,116,104,115,32,111,112,101,110,32,112,111,115,116,32,115,117,109,32,116,101,97,114,32,116,114,105,97,108,32,116,117,114,110,32,118,111,105,100]
noncomputable def keysOf (p:ByteArray→Prop):List ByteArray:=by
 classical exact if h:∃ ks,Keys p ks then h.choose else []
theorem keys_one {p:ByteArray→Prop} {a b:List ByteArray} (h:Keys p a) (h':Keys p b):a=b:=by
 have hp:a.Perm b:=(List.perm_ext_iff_of_nodup h.nodup h'.nodup).2 fun x=>(h.mem x).trans (h'.mem x).symm
 exact hp.eq_of_pairwise (le:=fun a b:ByteArray=>a.data.toList≤b.data.toList) (fun x y _ _ h1 h2=>by
  have e:=List.le_antisymm h1 h2
  cases x;cases y
  simpa using e) h.sorted h'.sorted
theorem keysOf_is {p:ByteArray→Prop} {ks:List ByteArray} (h:Keys p ks):keysOf p=ks:=by
 unfold keysOf
 rw [dif_pos ⟨ks,h⟩]
 exact keys_one (Exists.choose_spec (⟨ks,h⟩:∃ ks,Keys p ks)) h
def amT (n:Int):List UInt8:=byt (amt n)
def amountT (x:ByteArray) (q v:Int):List UInt8:=32 :: (x.data.toList ++ 58 :: (Lib.itoa q ++ 61 :: amT v))
noncomputable def atT (h:Hs) (n t:Int):List UInt8:=dAt ++ (keysOf fun x=>(stUp h.bk n t x).ys ≠ []).flatMap fun x=>amountT x (sumQ (stUp h.bk n t x).ys) (sumV (stUp h.bk n t x).ys)
noncomputable def changeT (h:Hs) (n a b:Int):List UInt8:=dChange ++ (keysOf fun z=>dfQ (stUp h.bk n b) (stUp h.bk n a) z ≠ 0∨dfV (stUp h.bk n b) (stUp h.bk n a) z ≠ 0).flatMap fun z=>amountT z (dfQ (stUp h.bk n b) (stUp h.bk n a) z) (dfV (stUp h.bk n b) (stUp h.bk n a) z)
def eventT (e:Ev):List UInt8:=32 :: 124 :: 32 :: (Lib.itoa e.id ++ 32 :: ET e)
noncomputable def eventsT (h:Hs) (n:Int):List UInt8:=dEvents ++ (srt (asOf h.bk (tOf h.bk n))).flatMap eventT
def turnsT (v:Vr):List UInt8:=32 :: (Lib.itoa v.fr ++ 45 :: Lib.itoa v.to)
def historyT (h:Hs) (n:Int):List UInt8:=dHistory ++ (h.bk.vs.filter (isH n)).flatMap turnsT
def moveT (y:Lin) (q v:Int):List UInt8:=32 :: (Lib.itoa y.id ++ 58 :: (amT y.val ++ 58 :: (Lib.itoa y.short ++ 58 :: (amT y.late ++ 58 :: (Lib.itoa q ++ 61 :: amT v)))))
noncomputable def movT (L:List Ev) (x:ByteArray) (k:Nat):List UInt8:=moveT (((goL stk00 (ordd (L.take (k + 1))))[k]?).getD ⟨0,0,0,0,false⟩) (sumQ (goS stk00 (ordd (L.take (k + 1))) x).ys) (sumV (goS stk00 (ordd (L.take (k + 1))) x).ys)
noncomputable def movesT (h:Hs) (x:ByteArray):List UInt8:=dMoves ++ (List.range (evIt h.bk x (-1)).length).flatMap (movT (evIt h.bk x (-1)) x)
def figT (f:Fig):List UInt8:=32 :: (amT f.inn ++ 32 :: (amT f.out ++ 32 :: (amT f.loss ++ 32 :: (amT f.gain ++ 32 :: amT f.late))))
noncomputable def opF (h:Hs):Fig:=unp (untl (srt (asOf h.bk h.bk.n)) 3300) h.cs
noncomputable def openT (h:Hs):List UInt8:=dOpen ++ figT (opF h)
def closingT (c:Cl):List UInt8:=32 :: 124 :: 32 :: (Lib.itoa c.month ++ 32 :: (Lib.itoa c.turn ++ figT c.posted))
def closedT (h:Hs):List UInt8:=dClosed ++ h.cs.flatMap closingT
noncomputable def postsL (h:Hs):List Pst:=(h.cs.flatMap fun c=>postL c.posted) ++ postL (opF h)
noncomputable def monthsT (h:Hs):List UInt8:=dMonths ++ 32 :: Lib.replace (printL (postsL h)) [10] [124] (-1)
def balT (ps:List Pst) (k:ByteArray):List UInt8:=32 :: (k.data.toList ++ 61 :: amT (bal k 0 ps))
noncomputable def trialT (h:Hs):List UInt8:=dTrial ++ (keysOf fun x=>x ∈ accs (postsL h)).flatMap (balT (postsL h))
def turnT (h:Hs):List UInt8:=dTurn ++ 32 :: Lib.itoa h.bk.n
noncomputable def dayT (n:Int):List UInt8:=dDay ++ 32 :: (Lib.itoa n ++ 32 :: Lib.itoa (dK n))
def sumT (l:List UInt8):List UInt8:=dSum ++ 32 :: Lib.itoa (sumL l:Nat)
structure An where
 told:List UInt8
 c:Int
 h:Hs
def anE (h:Hs) (c:Int):An:=⟨[],c,h⟩
noncomputable def doA (h:Hs) (w:List UInt8) (ws:List (List UInt8)):An:=⟨(doH h (w ++ 32 :: joinB ws)).told,(doH h (w ++ 32 :: joinB ws)).c,(doH h (w ++ 32 :: joinB ws)).h⟩
noncomputable def atA (h:Hs):List (List UInt8)→An
 | [d,a]=>match dparsed d with
  | none=>anE h 3
  | some n=>match numO a with
   | none=>anE h 3
   | some t=>⟨atT h n t,0,h⟩
 | _=>anE h 3
noncomputable def changeA (h:Hs):List (List UInt8)→An
 | [d,a,b]=>match dparsed d with
  | none=>anE h 3
  | some n=>match numO a with
   | none=>anE h 3
   | some t=>match numO b with
    | none=>anE h 3
    | some u=>⟨changeT h n t u,0,h⟩
 | _=>anE h 3
noncomputable def eventsA (h:Hs):List (List UInt8)→An
 | [a]=>match numO a with
  | none=>anE h 3
  | some n=>⟨eventsT h n,0,h⟩
 | _=>anE h 3
def historyA (h:Hs):List (List UInt8)→An
 | [a]=>match numO a with
  | none=>anE h 3
  | some n=>⟨historyT h n,0,h⟩
 | _=>anE h 3
noncomputable def movesA (h:Hs):List (List UInt8)→An
 | [a]=>⟨movesT h (ba a),0,h⟩
 | _=>anE h 3
noncomputable def openA (h:Hs):List (List UInt8)→An
 | []=>⟨openT h,0,h⟩
 | _=>anE h 3
def closedA (h:Hs):List (List UInt8)→An
 | []=>⟨closedT h,0,h⟩
 | _=>anE h 3
noncomputable def monthsA (h:Hs):List (List UInt8)→An
 | []=>⟨monthsT h,0,h⟩
 | _=>anE h 3
noncomputable def trialA (h:Hs):List (List UInt8)→An
 | []=>⟨trialT h,0,h⟩
 | _=>anE h 3
def turnA (h:Hs):List (List UInt8)→An
 | []=>⟨turnT h,0,h⟩
 | _=>anE h 3
def helpA (h:Hs):List (List UInt8)→An
 | []=>⟨dKnown,0,h⟩
 | _=>anE h 3
noncomputable def dayA (h:Hs):List (List UInt8)→An
 | [d]=>match dparsed d with
  | none=>anE h 3
  | some n=>⟨dayT n,0,h⟩
 | _=>anE h 3
def sumA (h:Hs) (ws:List (List UInt8)):An:=⟨sumT (joinB ws),0,h⟩
noncomputable def tornH (h:Hs) (n:Int):Hs:=runH (h.ls.take (wholeK n.toNat h.ls))
noncomputable def tearA (h:Hs):List (List UInt8)→An
 | [a]=>match numO a with
  | none=>anE h 3
  | some n=>if n < 0∨(totL h.ls:Int) < n then anE h 2 else ⟨dTear ++ 32 :: (Lib.itoa (wholeK n.toNat h.ls:Nat) ++ 32 :: Lib.itoa (totL (h.ls.take (wholeK n.toNat h.ls)):Nat)),0,tornH h n⟩
 | _=>anE h 3
noncomputable def deskA (h:Hs) (w:List UInt8) (ws:List (List UInt8)):An:=
 if w=dAt then atA h ws else if w=dChange then changeA h ws else if w=wClose then doA h w ws else if w=dClosed then closedA h ws else if w=wCorr then doA h w ws else if w=dDay then dayA h ws else if w=dEvents then eventsA h ws else if w=dHelp then helpA h ws else if w=dHistory then historyA h ws else if w=dMoves then movesA h ws else if w=dMonths then monthsA h ws else if w=dOpen then openA h ws else if w=wPost then doA h w ws else if w=dSum then sumA h ws else if w=dTear then tearA h ws else if w=dTrial then trialA h ws else if w=dTurn then turnA h ws else if w=wVoid then doA h w ws else anE h 3
noncomputable def lineA (h:Hs) (l:List UInt8):List UInt8 × Hs:=match fieldsL l with
 | []=>(dOk,h)
 | w :: ws=>(if (deskA h w ws).c=0 then (deskA h w ws).told else dError ++ Lib.itoa (deskA h w ws).c,(deskA h w ws).h)
noncomputable def sessL:Hs→List (List UInt8)→List UInt8
 | _,[]=>[]
 | h,l :: ls=>(lineA h l).1 ++ 10 :: sessL (lineA h l).2 ls
noncomputable def sessH:Hs→List (List UInt8)→Hs
 | h,[]=>h
 | h,l :: ls=>sessH (lineA h l).2 ls
theorem sess_app:∀ (a b:List (List UInt8)) (h:Hs),sessL h (a ++ b)=sessL h a ++ sessL (sessH h a) b
 | [],_,_=>rfl
 | l :: a,b,h=>by
  rw [List.cons_append,sessL,sess_app a b,sessL,sessH,List.append_assoc,List.cons_append]
theorem sessH_app:∀ (a b:List (List UInt8)) (h:Hs),sessH h (a ++ b)=sessH (sessH h a) b
 | [],_,_=>rfl
 | l :: a,b,h=>by rw [List.cons_append,sessH,sessH_app a b,sessH]
end Go.Proofs.YtbleojodidbhiaaGreatDoor
namespace Go.Proofs.YtbleojodidbhiaaGreatDoor
def ctr (e:Ev) (y:Lin):Int:=if e.kind=1∨e.kind=2 then y.val else if e.kind=3 then -y.val else if y.gain then y.val else -y.val
theorem doE_val {k:Nat} {s:Stk} {e:Ev} (h:StkOK k s) (hr:rtK e.kind e.qty e.price e.ofI) :
  sumV (doE s e).1.ys=sumV s.ys + ctr e (doE s e).2∧(doE s e).2.id=e.id∧(doE s e).2.val≤(k + 1) * 100000000000∧(0 < (doE s e).2.short→(doE s e).1.ys=[]):=by
 have hn:=sum_nonneg h.ok
 have hv:=h.v
 have hq:=h.q
 have hp:=h.p
 unfold doE ctr
 rcases hr with ⟨e1,a,b,c⟩ | ⟨e1,a,b,c⟩ | ⟨e1,a,b,c⟩ | ⟨e1,a,b,c⟩
 ·have m:=mul_bound (q:=e.qty) (p:=e.price) (by omega) a.2 b.1 b.2
  rw [if_pos e1,if_pos (Or.inl e1)]
  refine ⟨?_,rfl,by simp only;omega,fun x=>absurd x (Int.lt_irrefl _)⟩
  rw [sumV_append];simp only [sumV];omega
 ·rw [if_neg (by omega),if_pos e1,if_pos (Or.inr e1)]
  have cs:=chg_sum e.ofI e.price s.ys
  split
  ·rename_i hh
   rw [if_pos hh] at cs
   exact ⟨cs.2.1,rfl,by simp only;omega,fun x=>absurd x (Int.lt_irrefl _)⟩
  ·refine ⟨by simp only;omega,rfl,by simp only;omega,fun x=>absurd x (Int.lt_irrefl _)⟩
 ·rw [if_neg (by omega),if_neg (by omega),if_pos e1,if_neg (by omega),if_pos e1]
  have t:=tk_took s.ys e.qty h.ok (by omega)
  have tv:=t.val
  have tn:=sum_nonneg t.ok
  refine ⟨by simp only;omega,rfl,by simp only;omega,fun x=>?_⟩
  simp only at x ⊢
  rcases Int.lt_or_le (sumQ s.ys) e.qty with c | c
  ·exact t.gone (by omega)
  ·have:=(t.few c).2;omega
 ·have n1:¬ e.kind=1:=by omega
  have n2:¬ e.kind=2:=by omega
  have n3:¬ e.kind=3:=by omega
  have n4:¬ (e.kind=1∨e.kind=2):=by omega
  rw [if_neg n4,if_neg n3]
  by_cases hlt:sumQ s.ys < e.qty
  ·have m:=mul_bound (q:=e.qty - sumQ s.ys) (p:=s.price) (by omega) (by omega) hp.1 hp.2
   simp only [n1,n2,n3,hlt,if_false,if_true]
   refine ⟨?_,trivial,by omega,fun x=>absurd x (Int.lt_irrefl _)⟩
   rw [sumV_append];simp only [sumV];omega
  ·have t:=tk_took s.ys (sumQ s.ys - e.qty) h.ok (by omega)
   have tv:=t.val
   have tn:=sum_nonneg t.ok
   simp only [n1,n2,n3,hlt,if_false,Bool.false_eq_true]
   exact ⟨by omega,trivial,by omega,fun x=>absurd x (Int.lt_irrefl _)⟩
def csum:List Ev→List Lin→Int
 | e :: es,y :: ys=>ctr e y + csum es ys
 | _,_=>0
end Go.Proofs.YtbleojodidbhiaaGreatDoor
namespace Go.Proofs.YtbleojodidbhiaaGreatDoor
open Go.RowKit
def HsX (h:Hs):Prop:=∀ c ∈ h.cs,c.posted.ok∧I64 c.month∧I64 c.turn
theorem hsx_zero:HsX hs0:=fun c hc=>by cases hc
theorem hsx_do {h:Hs} (hx:HsX h) (ho:HsOk h) (hn:h.ls.length≤100000) (l:List UInt8):HsX (doH h l).h:=by
 unfold doH
 split
 ·exact hx
 split
 ·rename_i h2 h0
  show ∀ c ∈ (deedD h.bk h.cs (cutL l).1 (cutL l).2).cs,_
  unfold deedD at h0 ⊢
  split
  ·unfold postD;split
   ·exact hx
   ·split <;> exact hx
  split
  ·unfold corrD;split
   ·exact hx
   ·split
    ·exact hx
    ·split
     ·exact hx
     ·split <;> exact hx
  split
  ·unfold voidD;split
   ·exact hx
   ·split <;> exact hx
  split
  ·unfold closeD
   split
   ·exact hx
   ·rename_i n hd
    split
    ·exact hx
    ·split
     ·exact hx
     ·intro c hc
      rcases List.mem_append.1 hc with hc | hc
      ·exact hx c hc
      ·rw [List.mem_singleton] at hc
       subst hc
       have hb:=dparsed_some hd
       have hk:=dK_le hb.2.1 hb.2.2.1
       have h1:=ho.n
       have h2:=ho.inv.n0
       refine ⟨unp_ok _ _ (untl_ok _ _),?_,?_⟩
       ·constructor <;> simp only <;> omega
       ·constructor <;> simp only <;> omega
  ·exact hx
 ·exact hx
theorem hsx_run:∀ (n:Nat) (ls:List (List UInt8)),ls.length=n→n≤100000→GoodL ls→HsX (runH ls)
 | 0,ls,hn,_,_=>by rw [List.length_eq_zero_iff.1 hn];exact hsx_zero
 | n + 1,ls,hn,hb,h=>by
  obtain ⟨a,t,rfl⟩:∃ a t,ls=a ++ [t]:=by
   rcases List.eq_nil_or_concat ls with rfl | ⟨a,t,rfl⟩
   ·cases hn
   ·exact ⟨a,t,by rw [List.concat_eq_append]⟩
  have ha:a.length=n:=by simpa using hn
  have hg:=h.take a.length
  rw [List.take_left] at hg
  rw [run_snoc]
  exact hsx_do (hsx_run n a ha (by omega) hg) (ok_run n a ha (by omega) hg) (by rw [run_ls n a ha hg];omega) t
theorem tk_short:∀ (ys:List Lay) (n:Int),(∀ y ∈ ys,LayOK y)→0≤n→(tk ys n).2.2≤n
 | [],n,_,_=>Int.le_refl _
 | y :: ys,n,h,hn=>by
  unfold tk
  split
  ·exact Int.le_refl _
  split
  ·exact hn
  ·have hy:=h y (List.mem_cons_self ..)
   have:=tk_short ys (n - y.qty) (fun z hz=>h z (List.mem_cons_of_mem _ hz)) (by omega)
   have hq:=hy.1
   simp only
   omega
theorem line_bd {k:Nat} {s:Stk} {e:Ev} (h:StkOK k s) (hk:k≤1000) (hr:rtK e.kind e.qty e.price e.ofI):(doE s e).2.id=e.id∧I64 (doE s e).2.val∧I64 (doE s e).2.short∧I64 (doE s e).2.late:=by
 have hL:=(doE_ok h hr).2
 have hV:=doE_val h hr
 refine ⟨hV.2.1,⟨by have:=hL.v;omega,by have:=hV.2.2.1;omega⟩,⟨by have:=hL.s;omega,?_⟩,⟨by have:=hL.l;omega,?_⟩⟩
 ·have hq:e.qty≤100000∧0≤e.qty:=by
   rcases hr with ⟨_,a,_⟩ | ⟨_,a,_⟩ | ⟨_,a,_⟩ | ⟨_,a,_⟩ <;> omega
  have ht:=tk_short s.ys e.qty h.ok hq.2
  unfold doE
  repeat' split
  all_goals (simp only;omega)
 ·have hp:e.price≤100000000000:=by
   rcases hr with ⟨_,_,a,_⟩ | ⟨_,_,a,_⟩ | ⟨_,_,a,_⟩ | ⟨_,_,a,_⟩ <;> omega
  unfold doE
  repeat' split
  all_goals (simp only;omega)
theorem lines_bd:∀ (l:List Ev) (k:Nat) (M:Stks),(∀ y,StkOK k (M y))→(∀ e ∈ l,Rt e)→k + l.length≤1000→∀ z ∈ goL M l,(∃ e ∈ l,z.id=e.id)∧I64 z.val∧I64 z.short∧I64 z.late
 | [],k,M,_,_,_,z,hz=>by cases hz
 | e :: l,k,M,h,hr,hk,z,hz=>by
  have hre:=hr e (List.mem_cons_self ..)
  have d:=doE_ok (h e.item) hre.2.2
  rw [List.length_cons] at hk
  rcases List.mem_cons.1 hz with rfl | hm
  ·have hb:=line_bd (h e.item) (by omega) hre.2.2
   exact ⟨⟨e,List.mem_cons_self ..,hb.1⟩,hb.2⟩
  ·obtain ⟨⟨e',he',hid⟩,hb⟩:=lines_bd l (k + 1) (upd M e.item (doE (M e.item) e).1) (upd_ok h d.1) (fun x hx=>hr x (List.mem_cons_of_mem _ hx)) (by omega) z hm
   exact ⟨⟨e',List.mem_cons_of_mem _ he',hid⟩,hb⟩
theorem as_allD {b:Bk} (hi:Inv b) (t:Int) (e:Ev) (he:e ∈ srt (asOf b t)):Rt e∧EvW e:=by
 obtain ⟨v,hv,rfl⟩:=List.mem_map.1 ((srt_perm _).mem_iff.1 he)
 have h1:=(List.mem_filter.1 hv).1
 exact ⟨hi.rt v h1,hi.ew v h1⟩
end Go.Proofs.YtbleojodidbhiaaGreatDoor
