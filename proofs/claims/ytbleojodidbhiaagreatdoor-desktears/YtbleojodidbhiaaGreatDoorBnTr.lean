/-  -/
import Derived.Test.YtbleojodidbhiaaGreatDoorBnSa
import Derived.Lib.SpaceUEq
import Derived.Test.YtbleojodidbhiaaGreatDoorBnJs
import Derived.WalkSmall
import Derived.Test.YtbleojodidbhiaaGreatDoorBnEv
import Derived.Test.YtbleojodidbhiaaGreatDoorHsM
import Derived.Test.YtbleojodidbhiaaGreatDoorBnHd
import Derived.Test.YtbleojodidbhiaaGreatDoorRows
import Derived.WalkKit
import Derived.ProofKit
import Derived.OpenShut
import Derived.WalkSpells
import Derived.Test.YtbleojodidbhiaaGreatDoorBnShc
import Derived.Deep.DeepCutAuto
import Derived.Lib.LaidU8
set_option linter.unusedVariables false
namespace Go.Proofs.YtbleojodidbhiaaGreatDoor
open Go.RowKit
def Wd (t:List UInt8):Prop:=(32:UInt8) ∉ t∧(10:UInt8) ∉ t∧t ≠ []
theorem head_32 (t:List UInt8):Lib.headSpace (32 :: t) ≠ 0:=by
 simp [Lib.headSpace,Lib.spaceSeqs,List.isPrefixOf]
theorem head_10 (t:List UInt8):Lib.headSpace (10 :: t) ≠ 0:=by
 simp [Lib.headSpace,Lib.spaceSeqs,List.isPrefixOf]
theorem go_words:∀ (f:Nat) (cur l:List UInt8),(32:UInt8) ∉ cur→(10:UInt8) ∉ cur→∀ t ∈ Lib.fieldsGoU f cur l,Wd t
 | 0,cur,l,h1,h2,t,ht=>by
  rw [Lib.fieldsGoU] at ht
  split at ht
  ·cases ht
  ·rename_i hc
   rw [List.mem_singleton] at ht
   rw [ht];exact ⟨h1,h2,hc⟩
 | f + 1,cur,[],h1,h2,t,ht=>by
  rw [Lib.fieldsGoU] at ht
  split at ht
  ·cases ht
  ·rename_i hc
   rw [List.mem_singleton] at ht
   rw [ht];exact ⟨h1,h2,hc⟩
 | f + 1,cur,b :: l,h1,h2,t,ht=>by
  rw [Lib.fieldsGoU] at ht
  split at ht
  ·rename_i hs
   refine go_words f (cur ++ [b]) l ?_ ?_ t ht
   ·intro hm
    rcases List.mem_append.1 hm with hm | hm
    ·exact h1 hm
    ·rw [List.mem_singleton] at hm
     rw [← hm] at hs
     exact head_32 l hs
   ·intro hm
    rcases List.mem_append.1 hm with hm | hm
    ·exact h2 hm
    ·rw [List.mem_singleton] at hm
     rw [← hm] at hs
     exact head_10 l hs
  ·rcases List.mem_append.1 ht with ht | ht
   ·split at ht
    ·cases ht
    ·rename_i hc
     rw [List.mem_singleton] at ht
     rw [ht];exact ⟨h1,h2,hc⟩
   ·exact go_words f [] _ (by simp) (by simp) t ht
theorem fields_words (l:List UInt8):∀ t ∈ Lib.fieldsD l,Wd t:=by
 rw [← Lib.fieldsU_eq]
 exact go_words _ [] l (by simp) (by simp)
theorem join_app_one (c:List UInt8) (ws:List (List UInt8)):(joinB ([c] ++ ws)).length≤c.length + 1 + (joinB ws).length:=by
 cases ws with
 | nil=>simp [joinB]
 | cons x r=>
  rw [List.singleton_append,joinB,List.length_append,List.length_cons]
  omega
theorem go_join:∀ (f:Nat) (cur l:List UInt8),(joinB (Lib.fieldsGoU f cur l)).length≤cur.length + l.length
 | 0,cur,l=>by
  rw [Lib.fieldsGoU]
  split
  ·simp [joinB]
  ·simp [joinB]
 | f + 1,cur,[]=>by
  rw [Lib.fieldsGoU]
  split
  ·simp [joinB]
  ·simp [joinB]
 | f + 1,cur,b :: l=>by
  rw [Lib.fieldsGoU]
  split
  ·have:=go_join f (cur ++ [b]) l
   rw [List.length_append,List.length_singleton] at this
   rw [List.length_cons]
   omega
  ·rename_i hs
   have ih:=go_join f [] ((b :: l).drop (Lib.headSpace (b :: l)))
   rw [List.length_drop] at ih
   simp only [List.length_nil,Nat.zero_add] at ih
   have hl:1≤(b :: l).length:=by rw [List.length_cons];omega
   split
   ·rw [List.nil_append]
    omega
   ·have h2:=join_app_one cur (Lib.fieldsGoU f [] ((b :: l).drop (Lib.headSpace (b :: l))))
    omega
theorem fields_joined (l:List UInt8):(joinB (Lib.fieldsD l)).length≤l.length:=by
 rw [← Lib.fieldsU_eq]
 have:=go_join (l.length + 1) [] l
 simp only [List.length_nil,Nat.zero_add] at this
 exact this
theorem go_len:∀ (f:Nat) (cur l:List UInt8),(Lib.fieldsGoU f cur l).length≤l.length + 1
 | 0,cur,l=>by
  rw [Lib.fieldsGoU]
  split <;> simp
 | f + 1,cur,[]=>by
  rw [Lib.fieldsGoU]
  split <;> simp
 | f + 1,cur,b :: l=>by
  rw [Lib.fieldsGoU]
  split
  ·have:=go_len f (cur ++ [b]) l
   rw [List.length_cons]
   omega
  ·rename_i hs
   have ih:=go_len f [] ((b :: l).drop (Lib.headSpace (b :: l)))
   rw [List.length_drop] at ih
   have hl:1≤(b :: l).length:=by rw [List.length_cons];omega
   split
   ·rw [List.nil_append];omega
   ·rw [List.length_append,List.length_singleton];omega
theorem fields_count (l:List UInt8):(Lib.fieldsD l).length≤l.length + 1:=by
 rw [← Lib.fieldsU_eq]
 exact go_len _ _ _
def four (s:List UInt8):Prop:=s=wPost∨s=wCorr∨s=wVoid∨s=wClose
def TL (t:List UInt8):Prop:=∃ s w ws,t=joinB (s :: w :: ws)∧four s∧∀ x ∈ s :: w :: ws,Wd x
theorem tl_desk {s:List UInt8} (h:four s) (hh:Hs) (ws:List (List UInt8)):deskA hh s ws=doA hh s ws:=by
 rcases h with rfl | rfl | rfl | rfl
 ·exact desk_post hh ws
 ·exact desk_correct hh ws
 ·exact desk_void hh ws
 ·exact desk_close hh ws
theorem tl_line {t:List UInt8} (h:TL t) (hh:Hs):(lineA hh t).2=(doH hh t).h:=by
 obtain ⟨s,w,ws,rfl,hf,hw⟩:=h
 have e:fieldsL (joinB (s :: w :: ws))=s :: w :: ws:=fields_join _ (fun t ht=>⟨(hw t ht).1,(hw t ht).2.2⟩)
 rw [line_ans,e]
 show (deskA hh s (w :: ws)).h=_
 rw [tl_desk hf]
 rfl
theorem join_no:∀ (ws:List (List UInt8)),(∀ x ∈ ws,(10:UInt8) ∉ x)→(10:UInt8) ∉ joinB ws
 | [],_=>by simp [joinB]
 | [t],h=>h t (by simp)
 | t :: u :: r,h=>by
  rw [joinB]
  intro hm
  rcases List.mem_append.1 hm with hm | hm
  ·exact h t (by simp) hm
  ·rcases List.mem_cons.1 hm with hm | hm
   ·exact absurd hm (by decide)
   ·exact join_no (u :: r) (fun x hx=>h x (List.mem_cons_of_mem _ hx)) hm
theorem tl_no {t:List UInt8} (h:TL t):(10:UInt8) ∉ t:=by
 obtain ⟨s,w,ws,rfl,_,hw⟩:=h
 exact join_no _ fun x hx=>(hw x hx).2.1
noncomputable def doAll:Hs→List (List UInt8)→Hs
 | h,[]=>h
 | h,t :: ts=>doAll (doH h t).h ts
theorem doAll_snoc:∀ (ts:List (List UInt8)) (h:Hs) (t:List UInt8),doAll h (ts ++ [t])=(doH (doAll h ts) t).h
 | [],h,t=>rfl
 | x :: ts,h,t=>by rw [List.cons_append,doAll,doAll_snoc ts,doAll]
theorem sess_doAll:∀ (ts:List (List UInt8)) (h:Hs),(∀ t ∈ ts,TL t)→sessH h ts=doAll h ts
 | [],h,_=>rfl
 | t :: ts,h,ht=>by rw [sessH,doAll,tl_line (ht t (by simp)),sess_doAll ts _ (fun x hx=>ht x (List.mem_cons_of_mem _ hx))]
def textL (ts:List (List UInt8)):List UInt8:=ts.flatMap (· ++ [10])
theorem text_snoc (ts:List (List UInt8)) (t:List UInt8):textL (ts ++ [t])=textL ts ++ t ++ [10]:=by simp [textL]
theorem text_len (ts:List (List UInt8)):(textL ts).length=wtL ts:=by
 induction ts with
 | nil=>rfl
 | cons t ts ih=>
  have e:textL (t :: ts)=t ++ [10] ++ textL ts:=rfl
  rw [e,List.length_append,ih,wt_cons,List.length_append];simp
theorem split_text:∀ (ts:List (List UInt8)) (r:List UInt8),(∀ t ∈ ts,(10:UInt8) ∉ t)→splitL (textL ts ++ r)=ts ++ splitL r
 | [],r,_=>rfl
 | t :: ts,r,h=>by
  have e:textL (t :: ts) ++ r=t ++ 10 :: (textL ts ++ r):=by simp [textL]
  rw [e,split_hit t _ (h t (by simp)),split_text ts r (fun x hx=>h x (List.mem_cons_of_mem _ hx))]
  rfl
def tTurnEv:List UInt8:=[10,116,117,114,110,10,101,118,101,110,116,115,32,45,49,10]
theorem itoa_no (n:Int) (h:0≤n) (c:UInt8) (hc:c.toNat < 48):c ∉ Lib.itoa n:=by
 intro hm
 have:=itoa_digs n h c hm
 omega
theorem indexT_at (z:UInt8):∀ (a b:List UInt8),z ∉ a→Lib.index (a ++ z :: b) [z]=(a.length:Int)
 | [],b,_=>by simp [Lib.index]
 | x :: a,b,h=>by
  have hx:¬ z=x:=by intro e;apply h;rw [e];exact List.mem_cons_self
  have ih:=indexT_at z a b (fun hm=>h (List.mem_cons_of_mem _ hm))
  have hp:([z]:List UInt8).isPrefixOf (x :: (a ++ z :: b))=false:=by simp [List.isPrefixOf,hx]
  rw [List.cons_append,Lib.index,hp,ih]
  have hne:((a.length:Int) == -1)=false:=by simp
  rw [hne]
  simp
theorem indexT_not (z:UInt8):∀ (a:List UInt8),z ∉ a→Lib.index a [z] = -1
 | [],_=>by simp [Lib.index]
 | x :: a,h=>by
  have hx:¬ z=x:=by intro e;apply h;rw [e];exact List.mem_cons_self
  have ih:=indexT_not z a (fun hm=>h (List.mem_cons_of_mem _ hm))
  have hp:([z]:List UInt8).isPrefixOf (x :: a)=false:=by simp [List.isPrefixOf,hx]
  rw [Lib.index,hp,ih]
  simp
theorem splitT_at (z:UInt8) (k:Nat) (a b:List UInt8) (h:z ∉ a):Lib.splitK [z] 0 (k + 1) (a ++ z :: b)=a :: Lib.splitK [z] 0 k b:=by
 rw [Lib.splitK,indexT_at z a b h]
 have hne:((a.length:Int) == -1)=false:=by simp
 rw [hne]
 simp
theorem split_is:∀ (n:Nat) (s:List UInt8),s.length≤n→Lib.splitK [10] 0 (Lib.count s [10]) s=splitL s
 | 0,s,h=>by
  have:s=[]:=List.eq_nil_of_length_eq_zero (by omega)
  subst this
  rw [Lib.count_miss (indexT_not 10 [] (by simp))]
  rfl
 | n + 1,s,h=>by
  rcases feed_spec 10 s with ⟨_,hn⟩ | ⟨a,b,rfl,hn,_⟩
  ·rw [Lib.count_miss (indexT_not 10 s hn),split_last s hn];rfl
  ·have hi:=indexT_at 10 a b hn
   have hc:=Lib.count_hit (s:=a ++ 10 :: b) (sub:=[10]) (by simp) hi
   have hd:(a ++ 10 :: b).drop (a.length + [(10:UInt8)].length)=b:=by simp
   rw [hd] at hc
   rw [hc,Nat.add_comm,splitT_at 10 _ a b hn,split_hit a b hn,split_is n b (by simp at h;omega)]
def tearL (c:Nat):List UInt8:=dTear ++ 32 :: Lib.itoa (c:Nat)
def turnL:List UInt8:=[116,117,114,110]
def evL1:List UInt8:=[101,118,101,110,116,115,32,45,49]
theorem tear_no (c:Nat):(10:UInt8) ∉ tearL c:=by
 unfold tearL
 intro hm
 rcases List.mem_append.1 hm with hm | hm
 ·exact absurd hm (by decide)
 ·rcases List.mem_cons.1 hm with hm | hm
  ·exact absurd hm (by decide)
  ·exact itoa_no c (by omega) 10 (by decide) hm
theorem trim_feedT (a:List UInt8):Lib.trimSuffix (a ++ [10]) [10]=a:=by
 unfold Lib.trimSuffix
 simp [Lib.hasSuffix]
theorem split_all (ts:List (List UInt8)) (c:Nat) (h:∀ t ∈ ts,TL t):splitL (Lib.trimSuffix (textL ts ++ (tearL c ++ tTurnEv)) [10])=ts ++ [tearL c,turnL,evL1]:=by
 have e:textL ts ++ (tearL c ++ tTurnEv)=(textL ts ++ (tearL c ++ 10 :: (turnL ++ 10 :: evL1))) ++ [10]:=by
  simp [tTurnEv,turnL,evL1]
 have ht:=trim_feedT (textL ts ++ (tearL c ++ 10 :: (turnL ++ 10 :: evL1)))
 rw [e,ht,split_text ts _ (fun t hm=>tl_no (h t hm)),split_hit _ _ (tear_no c),split_hit turnL evL1 (by decide),split_last evL1 (by decide)]
theorem num_itoa (c:Nat) (hc:(c:Int)≤9223372036854775807):numO (Lib.itoa (c:Nat))=some (c:Int):=by
 have e:=atoi_itoa (c:Int) (by omega) hc
 unfold numO
 rw [e]
 simp
theorem itoa_ne (n:Int) (h:0≤n):Lib.itoa n ≠ []:=by rw [itoa_pos n h];exact (dec_all _ _ (Nat.le_refl _)).2.2
theorem lt_tear (h:Hs) (c:Nat) (hc:c≤totL h.ls) (ht:totL h.ls≤100000):(lineA h (tearL c)).2=tornH h c∧(10:UInt8) ∉ (lineA h (tearL c)).1:=by
 have hd:∀ x ∈ [dTear,Lib.itoa (c:Nat)],(32:UInt8) ∉ x∧x ≠ []:=by
  intro x hx
  simp only [List.mem_cons,List.not_mem_nil,or_false] at hx
  rcases hx with rfl | rfl
  ·decide
  ·exact ⟨itoa_no c (by omega) 32 (by decide),itoa_ne c (by omega)⟩
 have e:fieldsL (tearL c)=[dTear,Lib.itoa (c:Nat)]:=fields_join [dTear,Lib.itoa (c:Nat)] hd
 have ea:deskA h dTear [Lib.itoa (c:Nat)]=⟨dTear ++ 32 :: (Lib.itoa (wholeK c h.ls:Nat) ++ 32 :: Lib.itoa (totL (h.ls.take (wholeK c h.ls)):Nat)),0,tornH h c⟩:=by
  rw [desk_tear]
  unfold tearA
  simp only [num_itoa c (by omega)]
  rw [if_neg (by omega),Int.toNat_natCast]
 rw [line_ans,e]
 show (deskA h dTear [Lib.itoa (c:Nat)]).h=_∧(10:UInt8) ∉ (if (deskA h dTear [Lib.itoa (c:Nat)]).c=0 then (deskA h dTear [Lib.itoa (c:Nat)]).told else _)
 rw [ea]
 refine ⟨rfl,?_⟩
 rw [if_pos rfl]
 intro hm
 rcases List.mem_append.1 hm with hm | hm
 ·exact absurd hm (by decide)
 ·rcases List.mem_cons.1 hm with hm | hm
  ·exact absurd hm (by decide)
  ·rcases List.mem_append.1 hm with hm | hm
   ·exact itoa_no _ (by omega) 10 (by decide) hm
   ·rcases List.mem_cons.1 hm with hm | hm
    ·exact absurd hm (by decide)
    ·exact itoa_no _ (by omega) 10 (by decide) hm
theorem lt_turn (h:Hs):lineA h turnL=(turnT h,h):=by
 rw [line_ans,show fieldsL turnL=[dTurn] by kernel_rfl]
 show (if (deskA h dTurn []).c=0 then (deskA h dTurn []).told else _,(deskA h dTurn []).h)=_
 rw [desk_turn]
 rfl
theorem itoa_m1T:Lib.itoa (-1)=[45,49]:=by
 have e:Lib.itoa (-1)=45 :: Lib.decDigits 1:=by unfold Lib.itoa;rw [if_pos (by decide)];rfl
 rw [e,dec_one 1 (by omega)]
 rfl
theorem num_m1T:numO [45,49]=some (-1):=by
 have e:Lib.atoiAll [45,49] = .ok (-1):=by kernel_rfl
 unfold numO
 rw [e]
 simp [itoa_m1T]
theorem lt_events (h:Hs):lineA h evL1=(eventsT h (-1),h):=by
 rw [line_ans,show fieldsL evL1=[dEvents,[45,49]] by kernel_rfl]
 show (if (deskA h dEvents [[45,49]]).c=0 then (deskA h dEvents [[45,49]]).told else _,(deskA h dEvents [[45,49]]).h)=_
 rw [desk_events]
 unfold eventsA
 simp only [num_m1T]
 rfl
theorem torn_told (ts:List (List UInt8)) (c:Nat) (h:∀ t ∈ ts,TL t) (hc:c≤totL (doAll hs0 ts).ls) (ht:totL (doAll hs0 ts).ls≤100000) :
  ∃ X,sesT (textL ts ++ (tearL c ++ tTurnEv))=X ++ 10 :: (turnT (tornH (doAll hs0 ts) c) ++ 10 :: (eventsT (tornH (doAll hs0 ts) c) (-1) ++ [10])):=by
 unfold sesT
 rw [split_all ts c h,sess_app,sess_doAll ts hs0 h]
 generalize doAll hs0 ts=hh at hc ht ⊢
 have h1:=lt_tear hh c hc ht
 refine ⟨sessL hs0 ts ++ (lineA hh (tearL c)).1,?_⟩
 rw [sessL,h1.1,sessL,lt_turn,sessL,lt_events,sessL]
 simp
def okc (c:UInt8):Prop:=c.toNat=32∨(45≤c.toNat∧c.toNat≤57)∨(97≤c.toNat∧c.toNat≤122)
def okL (l:List UInt8):Prop:=∀ c ∈ l,okc c
theorem okL_app {a b:List UInt8} (ha:okL a) (hb:okL b):okL (a ++ b):=fun c hc=>by
 rcases List.mem_append.1 hc with h | h
 ·exact ha c h
 ·exact hb c h
theorem okL_cons {x:UInt8} {b:List UInt8} (hx:okc x) (hb:okL b):okL (x :: b):=fun c hc=>by
 rcases List.mem_cons.1 hc with h | h
 ·rw [h];exact hx
 ·exact hb c h
theorem okL_digs {l:List UInt8} (h:Digs l):okL l:=fun c hc=>Or.inr (Or.inl (by have:=h c hc;omega))
theorem ok32:okc 32:=Or.inl rfl
theorem ok45:okc 45:=Or.inr (Or.inl (by decide))
theorem ok46:okc 46:=Or.inr (Or.inl (by decide))
theorem okL_itoa (n:Int) (h:0≤n):okL (Lib.itoa n):=okL_digs (itoa_digs n h)
theorem okL_amt (n:Int) (h:0≤n):okL (byt (amt n)):=by
 unfold amt amtSize
 rw [if_neg (by omega),List.nil_append,byt_append,byt_cons]
 exact okL_app (okL_digs (dg_digs _ _)) (okL_cons ok46 (okL_digs (dg_digs _ _)))
theorem okL_DT (n:Int) (h0:0≤n) (h1:n≤99999):okL (bts (DT n)):=by
 have hk:=dK_le h0 h1
 have hy:1900≤ky (dK n)∧ky (dK n)≤2200:=⟨ky_ge _,by unfold ky;omega⟩
 have hm:=km_bd (dK n)
 have hd:=dD_bd h0
 have e:bts (DT n)=bts (tw (ky (dK n) / 100) ++ tw (ky (dK n) % 100)) ++ 45 :: (bts (tw (km (dK n))) ++ 45 :: bts (tw (dD n))):=DT_parts _ _ _
 have dy:Digs (bts (tw (ky (dK n) / 100) ++ tw (ky (dK n) % 100))):=by
  rw [bts_app];exact digs_append (tw_digs _ (by omega) (by omega)) (tw_digs _ (by omega) (by omega))
 have dm:=tw_digs (km (dK n)) (by omega) (by omega)
 have dd:=tw_digs (dD n) (by omega) (by omega)
 rw [e]
 exact okL_app (okL_digs dy) (okL_cons ok45 (okL_app (okL_digs dm) (okL_cons ok45 (okL_digs dd))))
theorem okL_all {l:List UInt8} (h:(l.all fun c=>decide (97≤c.toNat∧c.toNat≤122))=true):okL l:=fun c hc=>Or.inr (Or.inr (by simpa using List.all_eq_true.1 h c hc))
theorem okL_word (k:Int):okL (wordOf k):=by
 unfold wordOf
 repeat' split
 all_goals exact okL_all (by decide)
theorem okL_name {l:List UInt8} (h:isName l):okL l:=fun c hc=>by
 rcases h.2.2 c hc with h | h
 ·exact Or.inr (Or.inr h)
 ·have:48≤c.toNat∧c.toNat≤57:=h
  exact Or.inr (Or.inl (by omega))
theorem okL_nums {k q p o:Int} (h:rtK k q p o):okL (nums k q p o):=by
 unfold nums
 split
 ·rename_i hk
  rcases h with h | h | h | h
  ·exact okL_app (okL_itoa q (by omega)) (okL_cons ok32 (okL_app (okL_all (by decide)) (okL_cons ok32 (okL_amt p (by omega)))))
  ·omega
  ·omega
  ·omega
 split
 ·rename_i hk
  rcases h with h | h | h | h
  ·omega
  ·exact okL_app (okL_amt p (by omega)) (okL_cons ok32 (okL_app (okL_all (by decide)) (okL_cons ok32 (okL_itoa o (by omega)))))
  ·omega
  ·omega
 ·rcases h with h | h | h | h
  ·exact okL_itoa q (by omega)
  ·exact okL_itoa q (by omega)
  ·exact okL_itoa q (by omega)
  ·exact okL_itoa q (by omega)
theorem okL_ET {e:Ev} (h:Rt e):okL (ET e):=by
 unfold ET
 exact okL_app (okL_DT _ h.2.1.1 h.2.1.2) (okL_cons ok32 (okL_app (okL_word _) (okL_cons ok32 (okL_app (okL_name h.1) (okL_cons ok32 (okL_nums h.2.2))))))
theorem okL_not {l:List UInt8} (h:okL l) (c:UInt8) (hc:¬ okc c):c ∉ l:=fun hm=>hc (h c hm)
theorem no10:¬ okc 10:=by unfold okc;decide
theorem no124:¬ okc 124:=by unfold okc;decide
theorem count_not {l:List UInt8} (h:(124:UInt8) ∉ l):l.count 124=0:=List.count_eq_zero.2 h
theorem events_count:∀ (es:List Ev),(∀ e ∈ es,Rt e∧0≤e.id)→(es.flatMap eventT).count 124=es.length∧(10:UInt8) ∉ es.flatMap eventT
 | [],_=>⟨rfl,by simp⟩
 | e :: es,h=>by
  obtain ⟨h1,h2⟩:=events_count es (fun x hx=>h x (List.mem_cons_of_mem _ hx))
  have he:=h e (List.mem_cons_self ..)
  have ok:okL (Lib.itoa e.id ++ 32 :: ET e):=okL_app (okL_itoa _ he.2) (okL_cons ok32 (okL_ET he.1))
  have e1:(e :: es).flatMap eventT=32 :: 124 :: 32 :: ((Lib.itoa e.id ++ 32 :: ET e) ++ es.flatMap eventT):=by simp [eventT]
  rw [e1]
  constructor
  ·rw [List.count_cons_of_ne (by decide),List.count_cons_self,List.count_cons_of_ne (by decide),List.count_append,count_not (okL_not ok 124 no124),h1,List.length_cons]
   omega
  ·intro hm
   simp only [List.mem_cons,List.mem_append] at hm
   rcases hm with hm | hm | hm | hm | hm
   ·exact absurd hm (by decide)
   ·exact absurd hm (by decide)
   ·exact absurd hm (by decide)
   ·exact okL_not ok 10 no10 (by simpa using hm)
   ·exact h2 hm
theorem events_told {h:Hs} (ho:HsOk h):(eventsT h (-1)).count 124=(srt (asOf h.bk (tOf h.bk (-1)))).length∧(10:UInt8) ∉ eventsT h (-1):=by
 have hr:∀ e ∈ srt (asOf h.bk (tOf h.bk (-1))),Rt e∧0≤e.id:=fun e he=>by
  have h0:=as_allD ho.inv _ e he
  obtain ⟨v,hv,rfl⟩:=List.mem_map.1 ((srt_perm _).mem_iff.1 he)
  have h1:=ho.inv.id v (List.mem_filter.1 hv).1
  exact ⟨h0.1,by omega⟩
 obtain ⟨h1,h2⟩:=events_count _ hr
 unfold eventsT
 constructor
 ·rw [List.count_append,h1]
  have:(dEvents:List UInt8).count 124=0:=by decide
  omega
 ·intro hm
  rcases List.mem_append.1 hm with hm | hm
  ·exact absurd hm (by decide)
  ·exact h2 hm
theorem turn_no {h:Hs} (ho:HsOk h):(10:UInt8) ∉ turnT h:=by
 unfold turnT
 intro hm
 rcases List.mem_append.1 hm with hm | hm
 ·exact absurd hm (by decide)
 ·rcases List.mem_cons.1 hm with hm | hm
  ·exact absurd hm (by decide)
  ·exact itoa_no _ ho.inv.n0 10 (by decide) hm
theorem split_appT:∀ (a b:List UInt8),splitL (a ++ 10 :: b)=splitL a ++ splitL b
 | [],b=>by simp [splitL]
 | c :: a,b=>by
  have ih:=split_appT a b
  rw [List.cons_append,splitL,splitL,ih]
  split
  ·simp
  ·cases h:splitL a with
   | nil=>
    have:=wt_split a
    rw [h] at this
    simp [wtL] at this
   | cons x xs=>simp
theorem split_end (X T E:List UInt8) (hT:(10:UInt8) ∉ T) (hE:(10:UInt8) ∉ E):splitL (X ++ 10 :: (T ++ 10 :: (E ++ [10])))=splitL X ++ [T,E,[]]:=by
 rw [split_appT,split_hit T _ hT,split_hit E [] hE]
 rfl
end Go.Proofs.YtbleojodidbhiaaGreatDoor
namespace Go.Proofs.YtbleojodidbhiaaGreatDoor
open Go.RowKit Go.Shelf
def FoundS (p:List UInt8→Bool) (l:List (List UInt8)) (i:Int):Prop:=(i = -1∧∀ t ∈ l,p t=false)∨(0≤i∧∃ t ∈ l,p t=true)
set_option maxHeartbeats 2000000 in
theorem idx_str (l:List (List UInt8)) (ao:Option Addr) (cap:Nat) (w:World) (h:StrsC w ao l) (hl:l.length≤1000000) (f:Nat) (p:List UInt8→Bool) (ef:∀ args w,(callFunc f args).run Tryz.prog w = .ok (.enter f args) w)
  (hf:∀ (t:List UInt8) (W:World),t ∈ l→Calls Tryz.prog f #[encS t] W fun r w'=>r = .returned (.bool (p t))∧w'=W) :
  Calls Tryz.prog 23 #[.slice ao l.length cap,.func (.func f) #[] #[]] w fun r w'=>∃ i:Int,r = .returned (.int .i64 i)∧FoundS p l i∧Below w.heap.size w w':=by
 have HF:Hid (∀ (t:List UInt8) (W:World),t ∈ l→Calls Tryz.prog f #[encS t] W fun r w'=>r = .returned (.bool (p t))∧w'=W):=hf
 have HL:Hid (StrsC w ao l):=h
 clear hf h
 go_enter Tryz.func23,Tryz.ntmps23
 go_wp2
 go_loopw [8] (fun i wr=>∃ k:Nat,k≤l.length∧i = .int .i64 k∧Hid (∀ j (hj:j < l.length),j < k→p l[j]=false)∧Below w.heap.size w wr) (fun i _=>l.length - (intOf i).toNat)
 case atStart=>exact ⟨0,Nat.zero_le _,rfl,fun j _ hj=>absurd hj (Nat.not_lt_zero _),Below.refl _ _⟩
 case round=>
  obtain ⟨k,hk,rfl,HN,hb⟩:=hrel
  by_cases hlt:k < l.length
  ·obtain ⟨b,o,e1,lt1,c1⟩:=HL.out.below hb (by omega)
   subst e1
   have d1:=c1 k hlt
   have hcall:=HF.out l[k] wr (List.getElem_mem hlt)
   generalize hpv:p l[k]=pv at hcall
   have HPV:Hid (p l[k]=pv):=hpv
   obtain ⟨t,ht⟩:∃ t,t=l[k]:=⟨_,rfl⟩
   have HTM:Hid (l[k]=t):=ht.symm
   rw [← ht] at d1 hcall
   unfold encS at d1 hcall
   clear hpv c1 ht
   go_wp2_with fail
   refine hcall.mono ?_
   rintro e w1 ⟨rfl,hw1⟩
   subst w1
   clear hcall d1
   cases pv with
   | true=>
    go_wp2
    go_ret
    exact ⟨k,rfl,Or.inr ⟨by omega,l[k],List.getElem_mem hlt,HPV.out⟩,hb⟩
   | false=>
    go_wp2
    go_roundw
    case rel=>
     refine ⟨k + 1,by omega,by go_num,fun j hj hjk=>?_,hb⟩
     rcases Nat.lt_or_eq_of_le (Nat.le_of_lt_succ hjk) with x | x
     ·exact HN.out j hj x
     ·subst x;exact HPV.out
    case measure=>simp [intOf];omega
  ·obtain rfl:k=l.length:=by omega
   go_wp2
   go_ret
   exact ⟨-1,rfl,Or.inl ⟨rfl,fun t ht=>by
    obtain ⟨j,hj,rfl⟩:=List.getElem_of_mem ht
    exact HN.out j hj hj⟩,hb⟩
theorem long_any (t:List UInt8) (W:World) (_:t.length≤maxLen):Calls Tryz.prog 22 #[encS t] W fun r w'=>r = .returned (.bool (decide (250 < t.length)))∧w'=W:=by
 have hz:(ba t).size=t.length:=ba_size t
 unfold encS
 have HE:Hid (decide ((250:Int) < ((t.length:Nat):Int))=decide (250 < t.length)):=by show _=_;rw [decide_eq_decide];omega
 go_enter Tryz.func22,Tryz.ntmps22
 go_wp2
 go_ret
 exact ⟨by rw [← HE.out];rfl,rfl⟩
def LinesP (l:List (List UInt8)) (w:World) (e:Ending) (w':World):Prop:=(∃ b:Bool,e = .returned (.bool b)∧(b=true→l.length≤30∧∀ t ∈ l,t.length≤250))∧Below w.heap.size w w'
set_option maxHeartbeats 1000000 in
theorem lines_any (l:List (List UInt8)) (ao:Option Addr) (cap:Nat) (w:World) (h:StrsC w ao l) (hev:∀ t ∈ l,t.length≤maxLen) (hl:l.length≤maxLen) :
  Calls Tryz.prog 4 #[.slice ao l.length cap] w (LinesP l w):=by
 unfold maxLen at hl
 by_cases h40:l.length≤30
 ·have hz:(l.length:Int)≤30:=by omega
  have hc:=idx_str l ao cap w h (by omega) 22 (fun t=>decide (250 < t.length)) (enters_of Tryz.func22 (by kernel_rfl) rfl) (fun t W ht=>long_any t W (hev t ht))
  have hd:Calls Tryz.prog 5 #[.slice ao l.length cap,.func (.func 22) #[] #[]] w fun r w'=>∃ i:Int,r = .returned (.bool (decide (0≤i)))∧FoundS (fun t=>decide (250 < t.length)) l i∧Below w.heap.size w w':=by
   go_enter Tryz.func5,Tryz.ntmps5
   go_wp2_with fail
   refine hc.mono ?_
   rintro e w1 ⟨i,rfl,hfd,hb⟩
   have HFD:Hid (FoundS (fun t=>decide (250 < t.length)) l i):=hfd
   clear hfd hc
   go_wp2
   go_ret
   exact ⟨i,rfl,HFD.out,hb⟩
  clear hc h hev
  go_enter Tryz.func4,Tryz.ntmps4
  go_wp2_with fail
  refine hd.mono ?_
  rintro e w1 ⟨i,rfl,hfd,hb⟩
  have HB:Hid ((!decide (0≤i))=true→l.length≤30∧∀ t ∈ l,t.length≤250):=fun hi=>by
   refine ⟨h40,fun t ht=>?_⟩
   rcases hfd with ⟨h1,h2⟩ | ⟨h1,_⟩
   ·have:=h2 t ht
    simp at this
    exact this
   ·simp at hi;omega
  generalize decide (0≤i)=bb at HB ⊢
  clear hd hfd
  go_wp2
  go_ret
  exact ⟨⟨!bb,rfl,HB.out⟩,hb⟩
 ·have hz:¬ (l.length:Int)≤30:=by omega
  go_enter Tryz.func4,Tryz.ntmps4
  go_wp2
  go_ret
  exact ⟨⟨false,rfl,(fun h=>by cases h)⟩,Below.refl _ _⟩
end Go.Proofs.YtbleojodidbhiaaGreatDoor
namespace Go.Proofs.YtbleojodidbhiaaGreatDoor
open Go.RowKit
theorem dK_1:dK 1=0∧dD 1=2:=of_isDay (ofDay_some (show ofDay 1900 1 2=some 1 by decide)).2.2.2.2.2.2.2.2.2
theorem DT_1:bts (DT 1)=[49,57,48,48,45,48,49,45,48,50]:=by
 unfold DT;rw [dK_1.1,dK_1.2];decide
theorem amt_50:byt (amt 50)=[48,46,53,48]:=by
 unfold amt amtSize
 have e:wdN (Int.natAbs 50 / 100)=1:=wdN_small _ (by decide)
 rw [e];decide
theorem itoa_3:Lib.itoa 3=[51]:=by
 rw [itoa_pos 3 (by omega),show (3:Int).toNat=3 from rfl,dec_one 3 (by omega)];rfl
def evNail:Ev:=⟨0,⟨#[110,97,105,108]⟩,1,3,50,0,1⟩
def txNail:ByteArray:=⟨#[49,57,48,48,45,48,49,45,48,50,32,105,110,32,110,97,105,108,32,51,32,97,116,32,48,46,53,48]⟩
theorem nail_rt:Rt evNail:=by
 refine ⟨⟨by decide,?_,?_⟩,by decide,.inl (by decide)⟩
 ·intro c hc
  have:c=110:=by
   have h:some (110:UInt8)=some c:=hc
   cases h;rfl
  subst this;unfold isLet;decide
 ·intro c hc
  have h:c ∈ ([110,97,105,108]:List UInt8):=hc
  simp only [List.mem_cons,List.not_mem_nil,or_false] at h
  left
  rcases h with rfl | rfl | rfl | rfl <;> (unfold isLet;decide)
theorem nail_tx:ET evNail=txNail.data.toList:=by
 have e:ET evNail=bts (DT 1) ++ 32 :: ([105,110] ++ 32 :: ([110,97,105,108] ++ 32 :: (Lib.itoa 3 ++ 32 :: ([97,116] ++ 32 :: byt (amt 50))))):=rfl
 rw [e,DT_1,amt_50,itoa_3];rfl
theorem nail_w:EvW evNail:=⟨by decide,by decide,by decide,by decide,by decide,by decide,by decide⟩
theorem dK_jan0 {n:Int} (h0:0≤n) (h1:n≤30):dK n=0:=(of_isDay (n:=n) (k:=0) (d:=n + 1) ⟨by omega,by rw [show klen 0=31 by decide];omega,by simp [kfd]⟩).1
def k1:List UInt8:=[112,111,115,116,32,49,57,48,48,45,48,49,45,48,50,32,105,110,32,110,97,105,108,32,51,32,97,116,32,48,46,53,48]
def k2:List UInt8:=[99,108,111,115,101,32,49,57,48,48,45,48,49]
def k3:List UInt8:=[99,111,114,114,101,99,116,32,49,32,49,57,48,48,45,48,49,45,48,51,32,105,110,32,110,97,105,108,32,52,32,97,116,32,48,46,53,48]
def evN (id q d:Int):Ev:=⟨id,⟨#[110,97,105,108]⟩,1,q,50,0,d⟩
theorem evN_rt (id:Int) {q d:Int} (hq:1≤q∧q≤100000) (hd:0≤d∧d≤99999):Rt (evN id q d):=⟨nail_rt.1,hd,.inl ⟨rfl,hq,(by show (0:Int)≤50∧(50:Int)≤1000000;decide),rfl⟩⟩
theorem k1_cut:cutL k1=(wPost,txNail.data.toList):=by decide
theorem k2_cut:cutL k2=(wClose,[49,57,48,48,45,48,49]):=by decide
def tx3:List UInt8:=[49,57,48,48,45,48,49,45,48,51,32,105,110,32,110,97,105,108,32,52,32,97,116,32,48,46,53,48]
theorem k3_cut:cutL k3=(wCorr,49 :: 32 :: tx3):=by decide
theorem k3_cut2:cutL (49 :: 32 :: tx3)=([49],tx3):=by decide
theorem dK_2:dK 2=0∧dD 2=3:=of_isDay (ofDay_some (show ofDay 1900 1 3=some 2 by decide)).2.2.2.2.2.2.2.2.2
theorem dK_0:dK 0=0∧dD 0=1:=of_isDay (ofDay_some (show ofDay 1900 1 1=some 0 by decide)).2.2.2.2.2.2.2.2.2
theorem DT_2:bts (DT 2)=[49,57,48,48,45,48,49,45,48,51]:=by
 unfold DT;rw [dK_2.1,dK_2.2];decide
theorem DT_0:bts (DT 0)=[49,57,48,48,45,48,49,45,48,49]:=by
 unfold DT;rw [dK_0.1,dK_0.2];decide
theorem itoa_4:Lib.itoa 4=[52]:=by
 rw [itoa_pos 4 (by omega),show (4:Int).toNat=4 from rfl,dec_one 4 (by omega)];rfl
theorem itoa_1:Lib.itoa 1=[49]:=by
 rw [itoa_pos 1 (by omega),show (1:Int).toNat=1 from rfl,dec_one 1 (by omega)];rfl
theorem ev1:evOf txNail.data.toList=some (evN 0 3 1):=evOf_is ⟨nail_rt,rfl,nail_tx⟩
theorem ev3:evOf tx3=some (evN 0 4 2):=by
 refine evOf_is ⟨evN_rt 0 (by decide) (by decide),rfl,?_⟩
 have e:ET (evN 0 4 2)=bts (DT 2) ++ 32 :: ([105,110] ++ 32 :: ([110,97,105,108] ++ 32 :: (Lib.itoa 4 ++ 32 :: ([97,116] ++ 32 :: byt (amt 50))))):=rfl
 rw [e,DT_2,amt_50,itoa_4];rfl
theorem num1:numO [49]=some 1:=by
 have e:Lib.atoiAll [49] = .ok 1:=by rw [← itoa_1];exact atoi_itoa 1 (by decide) (by decide)
 unfold numO
 rw [e]
 simp [itoa_1]
theorem day0:dparsed ([49,57,48,48,45,48,49] ++ [45,48,49])=some 0:=by
 have e:([49,57,48,48,45,48,49] ++ [45,48,49]:List UInt8)=bts (DT 0):=by rw [DT_0];rfl
 rw [e];exact dparsed_DT (by omega) (by omega)
def kb1:Bk:=⟨[⟨evN 1 3 1,1,0⟩],1,1⟩
def kF:Fig:=⟨150,0,0,0,0⟩
theorem kb1_is:postB bk0 (evN 0 3 1)=kb1:=rfl
theorem do1:doH hs0 k1=⟨tPosted ++ [49],0,⟨kb1,[],[k1]⟩⟩:=by
 have hd:deedD hs0.bk hs0.cs (cutL k1).1 (cutL k1).2=⟨tPosted ++ [49],0,kb1,[]⟩:=by
  rw [k1_cut]
  unfold deedD
  rw [if_pos rfl]
  unfold postD
  simp only [ev1]
  rw [if_pos (by simp [hs0,bk0])]
  have e1:Lib.itoa (hs0.bk.g + 1)=[49]:=itoa_1
  have e2:lateT hs0.cs (evN 0 3 1)=[]:=rfl
  rw [e1,e2,List.append_nil]
  rfl
 unfold doH
 rw [if_neg (by decide),hd]
 rfl
theorem k_ordd:ordd [evN 1 3 1]=[evN 1 3 1]:=by
 unfold ordd
 rw [filter_rt (fun e he=>by rw [List.mem_singleton] at he;rw [he];exact evN_rt 1 (by decide) (by decide))]
 exact List.perm_singleton.1 (stl_perm [evN 1 3 1])
theorem kF_ok:kF.ok:=by constructor <;> (unfold I64 kF;simp)
theorem k_line:figOf 1 (doE stk0 (evN 1 3 1)).2=kF:=by
 have e:(doE stk0 (evN 1 3 1)).2=⟨1,150,0,0,false⟩:=by simp [doE,evN]
 rw [e]
 simp [figOf,kF]
theorem k_mons:mons [evN 1 3 1]=[⟨0,kF⟩]:=by
 unfold mons
 rw [k_ordd]
 show [(⟨(dK 1:Int),fig0.plus (figOf 1 (doE stk0 (evN 1 3 1)).2)⟩:Mon)]=_
 rw [dK_jan0 (by decide) (by decide),k_line,fig0_plus kF_ok]
 rfl
theorem k_clF:clF kb1 [] 0=kF:=by
 unfold clF
 rw [show asOf kb1 kb1.n=[evN 1 3 1] from rfl,srt_one]
 unfold untl
 rw [k_mons]
 show (if (0:Int)≤0 then fig0.plus kF else fig0)=kF
 rw [if_pos (by decide),fig0_plus kF_ok]
def kc:List Cl:=[⟨0,1,kF⟩]
theorem do2:doH ⟨kb1,[],[k1]⟩ k2=⟨tClosed ++ [49],0,⟨kb1,kc,[k1,k2]⟩⟩:=by
 have hd:deedD kb1 [] (cutL k2).1 (cutL k2).2=⟨tClosed ++ [49],0,kb1,kc⟩:=by
  rw [k2_cut]
  unfold deedD
  rw [if_neg (by decide),if_neg (by decide),if_neg (by decide),if_pos rfl]
  unfold closeD
  simp only [day0]
  rw [if_neg (by decide),if_neg (by decide),dK_0.1]
  have e1:clF kb1 [] ((0:Nat):Int)=kF:=k_clF
  rw [e1]
  have e2:Lib.itoa ((postL kF).length:Nat)=[49]:=by
   have:(postL kF).length=1:=by decide
   rw [this]
   exact itoa_1
  rw [e2]
  rfl
 unfold doH
 rw [if_neg (by decide)]
 simp only [hd]
 rfl
theorem do3:(doH ⟨kb1,kc,[k1,k2]⟩ k3).told=tCorrected ++ tLate∧(doH ⟨kb1,kc,[k1,k2]⟩ k3).c=0:=by
 have hk:kIx kb1.vs 1=0:=by decide
 have hd:deedD kb1 kc (cutL k3).1 (cutL k3).2=⟨tCorrected ++ tLate,0,corrB kb1 0 1 (evN 0 4 2),kc⟩:=by
  rw [k3_cut]
  unfold deedD
  rw [if_neg (by decide),if_pos rfl]
  unfold corrD
  rw [k3_cut2]
  simp only [num1,ev3]
  rw [hk,if_neg (by decide),if_pos (by decide)]
  have e2:lateT kc (evN 0 4 2)=tLate:=by
   unfold lateT
   rw [show (evN 0 4 2).day=2 from rfl,dK_2.1]
   rfl
  rw [e2]
  rfl
 unfold doH
 rw [if_neg (by decide)]
 simp only [hd]
 exact ⟨rfl,rfl⟩
theorem k_good:GoodL [k1,k2]∧runH [k1,k2]=⟨kb1,kc,[k1,k2]⟩:=by
 have r1:runH [k1]=⟨kb1,[],[k1]⟩:=by
  show (doH hs0 k1).h=_
  rw [do1]
 have g1:GoodL [k1]:=good_snoc good_nil (by show (doH hs0 k1).c=0;rw [do1])
 refine ⟨good_snoc (ls:=[k1]) g1 (by rw [r1,do2]),?_⟩
 have:=run_snoc [k1] k2
 rw [r1,do2] at this
 exact this
theorem kt1:ba k1=⟨#[112,111,115,116,32,49,57,48,48,45,48,49,45,48,50,32,105,110,32,110,97,105,108,32,51,32,97,116,32,48,46,53,48]⟩:=rfl
theorem kt2:ba k2=⟨#[99,108,111,115,101,32,49,57,48,48,45,48,49]⟩:=rfl
theorem kt3:ba k3=⟨#[99,111,114,114,101,99,116,32,49,32,49,57,48,48,45,48,49,45,48,51,32,105,110,32,110,97,105,108,32,52,32,97,116,32,48,46,53,48]⟩:=rfl
theorem kr1:ba (tPosted ++ [49])=⟨#[112,111,115,116,101,100,32,49]⟩:=rfl
theorem kr2:ba (tClosed ++ [49])=⟨#[99,108,111,115,101,100,32,49]⟩:=rfl
theorem kr3:ba (tCorrected ++ tLate)=⟨#[99,111,114,114,101,99,116,101,100,32,108,97,116,101]⟩:=rfl
theorem k_ok1:HsOk ⟨kb1,[],[k1]⟩:=by
 have:=do_keeps k1 ok_zero (by decide)
 rw [do1] at this
 exact this
theorem k_ok2:HsOk ⟨kb1,kc,[k1,k2]⟩:=by
 have:=do_keeps k2 k_ok1 (by decide)
 rw [do2] at this
 exact this
set_option maxRecDepth 20000 in
set_option maxHeartbeats 8000000 in
theorem kept_any (w:World) (hg:GlobH w):Calls Tryz.prog 8 #[] w fun e w'=>e = .returned (.bool true)∧Below w.heap.size w w':=by
 obtain ⟨W0,hW0⟩:∃ W,W=w.alloc (.cells #[.slice none 0 0,.int .i64 0,.int .i64 0,.slice none 0 0,.string ⟨#[]⟩,.int .i64 0] 36):=⟨_,rfl⟩
 have hA0:HsAt W0 w.heap.size w.heap.size (.slice none 0 0) (.slice none 0 0) hs0:=by rw [hW0];exact house_new w _ (Nat.le_refl _)
 have hB0:Below w.heap.size w W0:=by rw [hW0];exact (Below.refl _ _).alloc (Nat.le_refl _) _
 have gr0:Ground w.heap.size W0:=⟨w,hg,Nat.le_refl _,hB0⟩
 have hd1:=do_any hA0 ok_zero (by decide) gr0 k1 (by decide)
 rw [do1,kt1] at hd1
 have HG:=hidE hg
 have HW0:Hid (W0=_):=hW0
 have HA0:=hidE hA0
 clear hW0 hg hA0 gr0
 go_enter Tryz.func8,Tryz.ntmps8
 go_wp2_with fail
 rw [← HW0.out]
 refine hd1.mono ?_
 rintro x w1 ⟨sv1,cv1,rfl,hA1,hT1⟩
 have hB1:=hT1.below HA0.out hB0 hB0.size
 have hd2:=do_any hA1 k_ok1 (by decide) ⟨w,HG.out,Nat.le_refl _,hB1⟩ k2 (by decide)
 rw [do2,kt2] at hd2
 rw [kr1,show errV 0=Value.nilIface from rfl]
 have HA1:=hidE hA1
 clear hd1 hA1 hT1 hB0 HW0 HA0
 go_wp2_with fail
 refine hd2.mono ?_
 rintro x w2 ⟨sv2,cv2,rfl,hA2,hT2⟩
 have hB2:=hT2.below HA1.out hB1 hB1.size
 rw [kr2,show errV 0=Value.nilIface from rfl]
 have hj:=journal_any hA2
 clear hd2 hA2 hT2 hB1 HA1
 go_wp2_with fail
 refine hj.mono ?_
 rintro x w3 ⟨rfl,hw3⟩
 subst w3
 have hrd:Rd 0 (framesL 0 [k1,k2]) [k1,k2]:=read_frames [k1,k2] 0 (by decide) (fun t ht=>by simp at ht;rcases ht with rfl | rfl <;> decide)
 have hsz:(ba (framesL 0 [k1,k2])).size≤100000:=by rw [ba_size,frames_len];decide
 have hre:=restore_any (ba (framesL 0 [k1,k2])) [k1,k2] w2 (HG.out.below hB2) hsz (by rw [ba_data];exact hrd)
 clear hj hrd hsz
 go_wp2_with fail
 refine hre.mono ?_
 rintro x w4 ⟨⟨_,ph,sv4,cv4,rfl,hA4⟩ | ⟨hng,_⟩,hb4⟩
 rotate_left
 ·exact absurd k_good.1 hng
 rw [k_good.2] at hA4
 have hB4:Below w.heap.size w w4:=hB2.trans (hb4.mono hB2.size)
 have hd3:=do_any hA4 k_ok2 (by decide) ⟨w2,HG.out.below hB2,Nat.le_refl _,hb4⟩ k3 (by decide)
 rw [kt3] at hd3
 have HA4:=hidE hA4
 have HB4:=hidE hb4
 clear hre hA4 hb4
 go_wp2_with fail
 refine hd3.mono ?_
 rintro x w5 ⟨sv5,cv5,rfl,hA5,hT5⟩
 have hB5:Below w.heap.size w w5:=hB2.trans ((hT5.below HA4.out HB4.out HB4.out.size).mono hB2.size)
 rw [do3.1,do3.2,kr3,show errV 0=Value.nilIface from rfl]
 clear hd3 hA5 hT5 HA4 HB4
 go_wp2
 go_ret
 exact ⟨rfl,hB5⟩
def pk (a n:Int):Int:=a % 18446744073709551616 % n
theorem pk_bd (a n:Int) (h:1≤n):0≤pk a n∧pk a n < n:=by
 unfold pk
 exact ⟨Int.emod_nonneg _ (by omega),Int.emod_lt_of_pos _ (by omega)⟩
theorem pick_eq (a n:Int) (h:1≤n) (h':n≤4000000000000000000):wrap64 ((IntKind.u64.wrap a).tmod n)=pk a n:=by
 have hb:=pk_bd a n h
 have e:(IntKind.u64.wrap a).tmod n=pk a n:=by
  rw [IntKind.wrap_u64,Int.tmod_eq_emod_of_nonneg (by omega)];rfl
 rw [e];exact IntWalk.wrap64_in _ ⟨by omega,by omega⟩
theorem pick_any (a n:Int) (w:World) (h:1≤n) (h':n≤4000000000000000000) :
  Calls Tryz.prog 13 #[.int .i64 a,.int .i64 n] w fun e w'=>e = .returned (.int .i64 (pk a n))∧w'=w:=by
 go_enter Tryz.func13,Tryz.ntmps13
 go_wp2
 go_ret
 exact ⟨congrArg (fun x=>Ending.returned (.int .i64 x)) (pick_eq a n h h'),rfl⟩
end Go.Proofs.YtbleojodidbhiaaGreatDoor
set_option linter.unusedVariables false
namespace Go.Proofs.YtbleojodidbhiaaGreatDoor
open Go.RowKit
set_option maxHeartbeats 1000000 in
theorem cany_any (t:List UInt8) (W:World):Calls Tryz.prog 7 #[.string (ba t),.string ⟨#[10]⟩] W fun r w'=>r = .returned (.bool (decide (0≤Lib.indexAny t [10])))∧w'=W:=by
 have hI:=Tryz.strings_IndexAny_one (ba t) ⟨#[10]⟩ W rfl (by
  intro j b hb
  cases j with
  | zero=>simp at hb;subst hb;decide
  | succ j=>simp at hb)
 rw [ba_data,show (⟨#[10]⟩:ByteArray).data.toList=[10] from rfl] at hI
 generalize Lib.indexAny t [10]=i at hI ⊢
 go_enter Tryz.func7,Tryz.ntmps7
 go_wp2_with fail
 refine hI.mono ?_
 rintro e w1 ⟨rfl,hw⟩
 subst w1
 clear hI
 go_wp2
 go_ret
 exact ⟨rfl,rfl⟩
set_option maxHeartbeats 1000000 in
theorem feed_any (t:List UInt8) (W:World):Calls Tryz.prog 6 #[encS t] W fun r w'=>r = .returned (.bool (decide (0≤Lib.indexAny t [10])))∧w'=W:=by
 have hI:=cany_any t W
 unfold encS
 generalize decide (0≤Lib.indexAny t [10])=i at hI ⊢
 go_enter Tryz.func6,Tryz.ntmps6
 go_wp2_with fail
 refine hI.mono ?_
 rintro e w1 ⟨rfl,hw⟩
 subst w1
 clear hI
 go_wp2
 go_ret
 exact ⟨rfl,rfl⟩
set_option maxHeartbeats 1000000 in
theorem feeds_any (l:List (List UInt8)) (ao:Option Addr) (cap:Nat) (w:World) (h:StrsC w ao l) (hl:l.length≤1000000) :
  Calls Tryz.prog 5 #[.slice ao l.length cap,.func (.func 6) #[] #[]] w fun r w'=>(∃ b,r = .returned (.bool b))∧Below w.heap.size w w':=by
 have hc:=idx_str l ao cap w h hl 6 (fun t=>decide (0≤Lib.indexAny t [10])) (enters_of Tryz.func6 (by kernel_rfl) rfl) (fun t W _=>feed_any t W)
 go_enter Tryz.func5,Tryz.ntmps5
 go_wp2_with fail
 refine hc.mono ?_
 rintro e w1 ⟨i,rfl,-,hb⟩
 clear hc
 go_wp2
 go_ret
 exact ⟨⟨_,rfl⟩,hb⟩
structure GlobT (w:World):Prop where
 d:GlobD w
 sp:Lib.TabIs Tryz.prog w "strings.asciiSpace" .u8 Lib.asciiSpaceTab
 wh:Lib.WhiteTab 1 w
theorem gSpT:Tryz.prog.globalNamed "strings.asciiSpace" = some 0:=by kernel_rfl
theorem tfields_any (l:List UInt8) (w:World) (hl:l.length≤100000) (hg:GlobT w) :
  Calls Tryz.prog 9 #[.string (ba l)] w fun e w'=>∃ A,e = .returned (.slice (some ⟨A,0,none⟩) (Lib.fieldsD l).length (Lib.fieldsD l).length)∧WsAt w' (.slice (some ⟨A,0,none⟩) (Lib.fieldsD l).length (Lib.fieldsD l).length) (Lib.fieldsD l)∧Below w.heap.size w w':=by
 refine (Tryz.strings_Fields_any (ba l) w (by rw [ba_size];omega) hg.sp hg.wh).mono ?_
 rw [ba_data]
 rintro e w' ⟨A,rfl,hA,hown,hb⟩
 refine ⟨A,rfl,?_,hb⟩
 have hc:=hown.cells (g:=A) rfl
 have hlt:=(hown.lt A rfl).2
 refine ⟨some ⟨A,0,none⟩,(Lib.fieldsD l).length,rfl,Nat.le_refl _,Or.inr ⟨A,0,rfl,hlt,fun j x hj=>?_⟩⟩
 have:=hc j (.string (ba x)) (by rw [List.getElem?_map,hj];rfl)
 rwa [Addr.add_lit] at this
def fourB:List ByteArray:=[⟨#[112,111,115,116]⟩,⟨#[99,111,114,114,101,99,116]⟩,⟨#[118,111,105,100]⟩,⟨#[99,108,111,115,101]⟩]
theorem four_any (g:Nat) (s:List UInt8) (w:World) (h0:w.cell? ⟨g,0,none⟩=some (.string ⟨#[112,111,115,116]⟩)) (h1:w.cell? ⟨g,1,none⟩=some (.string ⟨#[99,111,114,114,101,99,116]⟩)) (h2:w.cell? ⟨g,2,none⟩=some (.string ⟨#[118,111,105,100]⟩)) (h3:w.cell? ⟨g,3,none⟩=some (.string ⟨#[99,108,111,115,101]⟩)) :
  Calls Tryz.prog 10 #[.slice (some ⟨g,0,none⟩) 4 4,.string (ba s)] w fun e w'=>(∃ b:Bool,e = .returned (.bool b)∧(b=true→four s))∧w'=w:=by
 refine (Tryz.slices_Contains_string g 0 4 4 fourB (ba s) w (by decide) (by decide) (by
  intro j hj
  have hj4:j < 4:=hj
  obtain rfl | rfl | rfl | rfl:j=0∨j=1∨j=2∨j=3:=by omega
  ·exact h0
  ·exact h1
  ·exact h2
  ·exact h3)).mono ?_
 rintro e w' ⟨rfl,rfl⟩
 refine ⟨⟨_,rfl,fun hb=>?_⟩,rfl⟩
 rw [Lib.containsS_iff] at hb
 have hm:ba s ∈ fourB:=hb
 simp only [fourB,List.mem_cons,List.not_mem_nil,or_false] at hm
 have key:∀ x:ByteArray,ba s=x→s=x.data.toList:=fun x hx=>by rw [← hx,ba_data]
 rcases hm with h | h | h | h
 ·exact Or.inl (key _ h)
 ·exact Or.inr (Or.inl (key _ h))
 ·exact Or.inr (Or.inr (Or.inl (key _ h)))
 ·exact Or.inr (Or.inr (Or.inr (key _ h)))
def TrI (w2:World) (p k:Nat) (tv:Value) (wr:World):Prop:=∃ ts s c,HsAt wr w2.heap.size p s c (doAll hs0 ts)∧(∀ t ∈ ts,TL t)∧tv = .string (ba (textL ts))∧(wtL ts≤k * 251∧ts.length≤k)∧Below w2.heap.size w2 wr
theorem tr_new (w:World):TrI w w.heap.size 0 (.string ⟨#[]⟩) (w.alloc (.cells #[.slice none 0 0,.int .i64 0,.int .i64 0,.slice none 0 0,.string ⟨#[]⟩,.int .i64 0] 36)):=
 ⟨[],_,_,house_new w _ (Nat.le_refl _),(fun t h=>by cases h),rfl,⟨Nat.zero_le _,Nat.zero_le _⟩,(Below.refl _ _).alloc (Nat.le_refl _) _⟩
theorem tr_g {ts:List (List UInt8)} (h:∀ t ∈ ts,TL t) (hw:wtL ts≤9900):DkG (wtL ts) (doAll hs0 ts):=by
 have:=dkg_sess ts 0 hs0 dkg_zero (by omega)
 rw [sess_doAll ts hs0 h,Nat.zero_add] at this
 exact this
end Go.Proofs.YtbleojodidbhiaaGreatDoor
set_option linter.unusedVariables false
namespace Go.Proofs.YtbleojodidbhiaaGreatDoor
open Go.RowKit
theorem GlobT.below {w w':World} (h:GlobT w) (hb:Below w.heap.size w w'):GlobT w':=⟨h.d.below hb,var?_below hb gSpT (varN_lt gSpT h.sp) h.sp,Go.Proofs.WhiteTab_below h.wh hb⟩
set_option maxRecDepth 20000 in
set_option maxHeartbeats 8000000 in
theorem tears_walk (ao:Option Addr) (cap:Nat) (l:List (List UInt8)) (a1:Int) (w:World) (hg:GlobT w) (hev:∀ t ∈ l,t.length≤maxLen) (hat:StrsC w ao l) (hcp:l.length≤cap) (hmx:cap≤maxLen) (hwf:(Lit.int .i64 a1).wf=true) :
  Calls Tryz.prog 3 #[.slice ao l.length cap,.int .i64 a1] w fun e w'=>e = .returned (.bool true)∧Below w.heap.size w w':=by
 have hli:=lines_any l ao cap w hat hev (by omega)
 have HC:=hidE hat
 have HG:=hidE hg
 clear hat hev hg
 go_enter Tryz.func3,Tryz.ntmps3
 go_wp2_with fail
 refine hli.mono ?_
 rintro x w1 ⟨⟨bb,rfl,hbb⟩,hb1⟩
 clear hli
 cases bb with
 | false=>
  clear hbb
  go_wp2
  go_ret
  exact ⟨rfl,hb1⟩
 | true=>
 obtain ⟨h30,h250⟩:=hbb rfl
 have H250:=hidE h250
 have hfe:=feeds_any l ao cap w1 (HC.out.below hb1) (by omega)
 clear hbb h250
 go_wp2_with fail
 refine hfe.mono ?_
 rintro x w1b ⟨⟨fb,rfl⟩,hb1b⟩
 have hb1c:Below w.heap.size w w1b:=hb1.trans (hb1b.mono hb1.size)
 clear hfe hb1 hb1b
 cases fb with
 | true=>
  go_wp2
  go_ret
  exact ⟨rfl,hb1c⟩
 | false=>
 have hke:=kept_any w1b (HG.out.below hb1c).d.h
 go_wp2_with fail
 refine hke.mono ?_
 rintro x w2 ⟨rfl,hb2'⟩
 have hb2:Below w.heap.size w w2:=hb1c.trans (hb2'.mono hb1c.size)
 clear hke hb1c hb2'
 have HN:=hidE (tr_new w2)
 have hG2:=hidE (HG.out.below hb2)
 obtain ⟨W3,hW3⟩:∃ W,W=w2.alloc (.cells #[.slice none 0 0,.int .i64 0,.int .i64 0,.slice none 0 0,.string ⟨#[]⟩,.int .i64 0] 36):=⟨_,rfl⟩
 rw [← hW3] at HN
 have HW3:Hid (W3=_):=hW3
 have HC2:Hid (StrsC w2 ao l):=HC.out.below hb2
 have HB2:=hidE hb2
 clear hW3 HC HG hb2
 go_wp2_with fail
 rw [← HW3.out]
 obtain ⟨p1,hp1⟩:∃ p,p=w2.heap.size:=⟨_,rfl⟩
 rw [← hp1]
 have HN2:Hid (TrI w2 p1 0 (.string ⟨#[]⟩) W3):=by rw [hp1];exact HN.out
 have HP1:=hidE hp1
 clear hp1 HN HW3
 go_loopw [6,7] (fun tv i wr=>∃ k:Nat,k≤l.length∧i = .int .i64 k∧Hid (TrI w2 p1 k tv wr)) (fun _ i _=>l.length - (intOf i).toNat)
 case atStart=>exact ⟨0,Nat.zero_le _,rfl,HN2⟩
 case round=>
  obtain ⟨k,hk,rfl,HS⟩:=hrel
  obtain ⟨ts,s1,c1,hA1,htl,rfl,⟨hwt,htk⟩,hbl⟩:=HS.out
  by_cases hlt:k < l.length
  ·obtain ⟨b,o,e1,lt1,c1'⟩:=HC2.out (by omega)
   subst e1
   have d1:wr.cell? ⟨b,o + k,none⟩=some (encS l[k]):=(hbl.cell (p:=⟨b,o + k,none⟩) lt1).trans (c1' k hlt)
   have ht2:=H250.out _ (List.getElem_mem hlt)
   obtain ⟨t,ht⟩:∃ t,t=l[k]:=⟨_,rfl⟩
   rw [← ht] at d1 ht2
   unfold encS at d1
   have hF:=tfields_any t wr (by omega) (hG2.out.below hbl)
   have HWD:=hidE (fields_words t)
   have hjl:=fields_joined t
   have hcl:=fields_count t
   obtain ⟨ws,hws⟩:∃ ws,ws=Lib.fieldsD t:=⟨_,rfl⟩
   rw [← hws] at hF HWD hjl hcl
   have HA1:=hidE hA1
   have HTL:=hidE htl
   have HWT:=hidE hwt
   have HBL:=hidE hbl
   clear c1' ht HS hbl hA1 hws htl hwt
   go_wp2_with fail
   refine hF.mono ?_
   rintro x w4 ⟨A,rfl,hwa,hb4⟩
   have HB4:Hid (Below w2.heap.size w2 w4):=HBL.out.trans (hb4.mono HBL.out.size)
   have HA4:Hid (HsAt w4 w2.heap.size p1 s1 c1 (doAll hs0 ts)):=HA1.out.below hb4
   clear hF d1 hb4 HA1
   obtain ⟨W5,hW5⟩:∃ W,W=w4.alloc (.cells #[.string ⟨#[112,111,115,116]⟩,.string ⟨#[99,111,114,114,101,99,116]⟩,.string ⟨#[118,111,105,100]⟩,.string ⟨#[99,108,111,115,101]⟩] 9):=⟨_,rfl⟩
   have hb5:Below w4.heap.size w4 W5:=by rw [hW5];exact (Below.refl _ _).alloc (Nat.le_refl _) _
   have HB5:Hid (Below w2.heap.size w2 W5):=HB4.out.trans (hb5.mono HB4.out.size)
   have HA5:Hid (HsAt W5 w2.heap.size p1 s1 c1 (doAll hs0 ts)):=HA4.out.below hb5
   have hwa5:=hwa.below hb5
   have HW5:=hidE hW5
   by_cases hl2:(ws.length:Int) < 2
   ·have HT4:Hid (TrI w2 p1 (k + 1) (.string (ba (textL ts))) w4):=⟨ts,s1,c1,HA4.out,HTL.out,rfl,⟨by have:=HWT.out;omega,by omega⟩,HB4.out⟩
    clear hwa hwa5 hW5 hb5 HB4 HA4 HW5 HA5 HB5
    go_wp2
    go_roundw
    case rel=>exact ⟨k + 1,by omega,by go_num,HT4⟩
    case measure=>simp [intOf];omega
   ·obtain ⟨s0,y0,r0,rfl⟩:∃ s0 y0 r0,ws=s0 :: y0 :: r0:=by
     match ws,hl2 with
     | [],h=>exact absurd (by simp) h
     | [_],h=>exact absurd (by simp) h
     | x :: y :: r,_=>exact ⟨x,y,r,rfl⟩
    have hcell:w4.cell? ⟨A,0,none⟩=some (.string (ba s0)):=by
     obtain ⟨ad,cp,ev,-,hx | ⟨bk,oo,ea,-,cc⟩⟩:=hwa
     ·cases hx
     ·simp only [Value.slice.injEq] at ev
      rw [ea] at ev
      obtain ⟨ev,-,-⟩:=ev
      cases ev
      exact cc 0 s0 rfl
    have hAlt:A < w4.heap.size:=World.block_lt_of_cell? _ _ hcell
    have hAne:A ≠ w4.heap.size:=by omega
    have g0:W5.cell? ⟨w4.heap.size,0,none⟩=some (.string ⟨#[112,111,115,116]⟩):=by rw [hW5];simp
    have g1:W5.cell? ⟨w4.heap.size,1,none⟩=some (.string ⟨#[99,111,114,114,101,99,116]⟩):=by rw [hW5];simp
    have g2:W5.cell? ⟨w4.heap.size,2,none⟩=some (.string ⟨#[118,111,105,100]⟩):=by rw [hW5];simp
    have g3:W5.cell? ⟨w4.heap.size,3,none⟩=some (.string ⟨#[99,108,111,115,101]⟩):=by rw [hW5];simp
    have hQ:=four_any w4.heap.size s0 W5 g0 g1 g2 g3
    have hJ:=joinW (s0 :: y0 :: r0) _ W5 hwa5 (by omega) (by omega)
    obtain ⟨nn,hnn⟩:∃ n,n=(s0 :: y0 :: r0).length:=⟨_,rfl⟩
    have hn0:¬ ((nn:Int) < 2):=by rw [hnn];exact hl2
    have hn1:0 < nn:=by omega
    have hn2:(0:Int) < (nn:Int):=by omega
    rw [← hnn] at hJ ⊢
    have HT5:Hid (TrI w2 p1 (k + 1) (.string (ba (textL ts))) W5):=⟨ts,s1,c1,HA5.out,HTL.out,rfl,⟨by have:=HWT.out;omega,by omega⟩,HB5.out⟩
    obtain ⟨X,hX⟩:∃ X,X=joinB (s0 :: y0 :: r0):=⟨_,rfl⟩
    have HX:=hidE hX
    rw [← hX] at hJ hjl
    clear g0 g1 g2 g3 hwa hwa5 hW5 hb5 hX hl2 hnn
    go_wp2_with fail
    rw [← HW5.out]
    refine hQ.mono ?_
    rintro x w6 ⟨⟨qb,rfl,hqb⟩,hw6⟩
    subst w6
    clear hQ hcell hAlt hAne
    cases qb with
    | false=>
     clear hqb hJ
     go_wp2
     go_roundw
     case rel=>exact ⟨k + 1,by omega,by go_num,HT5⟩
     case measure=>simp [intOf];omega
    | true=>
    have HTLX:Hid (TL X):=⟨s0,y0,r0,HX.out,hqb rfl,HWD.out⟩
    clear hqb HT5
    go_wp2_with fail
    refine hJ.mono ?_
    rintro x w6 ⟨rfl,hb6⟩
    have hA6:=HA5.out.below hb6
    have HB6:Hid (Below w2.heap.size w2 w6):=HB5.out.trans (hb6.mono HB5.out.size)
    have hGG:=tr_g HTL.out (by have:=HWT.out;omega)
    have hdo:=do_any hA6 hGG.ok (by have:=hGG.n;have:=HWT.out;omega) ⟨w2,hG2.out.d.h,Nat.le_refl _,HB6.out⟩ X (by omega)
    have HA6:=hidE hA6
    clear hJ hb6 hA6 hGG
    go_wp2_with fail
    refine hdo.mono ?_
    rintro x w7 ⟨sv',cv',rfl,hA7,hT7⟩
    have hB7:Below w2.heap.size w2 w7:=hT7.below HA6.out HB6.out HB6.out.size
    have zX:(ba X).size≤250:=by rw [ba_size];omega
    have zT:(ba (textL ts)).size≤8000:=by rw [ba_size,text_len];have:=HWT.out;omega
    have HT:Hid (ba (textL ts) ++ (ba X ++ ⟨#[10]⟩)=ba (textL (ts ++ [X]))):=by
     show _=_
     rw [text_snoc]
     apply dba_ext
     simp [ba_data]
    have HT7:Hid (TrI w2 p1 (k + 1) (.string (ba (textL (ts ++ [X])))) w7):=by
     refine ⟨ts ++ [X],sv',cv',by rw [doAll_snoc];exact hA7,fun t ht=>?_,rfl,⟨?_,by rw [List.length_append,List.length_singleton];omega⟩,hB7⟩
     ·rcases List.mem_append.1 ht with ht | ht
      ·exact HTL.out t ht
      ·rw [List.mem_singleton] at ht;rw [ht];exact HTLX.out
     ·rw [wt_app,show wtL [X]=X.length + 1 from rfl]
      have:=HWT.out
      omega
    obtain ⟨tx,htx⟩:∃ t,t=ba (textL ts):=⟨_,rfl⟩
    obtain ⟨bx,hbx⟩:∃ t,t=ba X:=⟨_,rfl⟩
    obtain ⟨nt,hnt⟩:∃ t,t=ba (textL (ts ++ [X])):=⟨_,rfl⟩
    rw [← htx] at zT HT ⊢
    rw [← hbx] at zX HT ⊢
    rw [← hnt] at HT HT7
    clear hdo hA7 hT7 hB7 htx hbx hnt HA6 HB6 HA5 HB5
    go_wp2
    go_roundw
    case rel=>exact ⟨k + 1,by omega,by go_num,by rw [HT.out];exact HT7⟩
    case measure=>simp [intOf];omega
  ·have hkl:k=l.length:=by omega
   have hnn:¬ (k:Int) < (l.length:Int):=by omega
   have hGG:=tr_g htl (by omega)
   obtain ⟨hh,hhh⟩:∃ h,h=doAll hs0 ts:=⟨_,rfl⟩
   have htold:=fun c hc=>torn_told ts c htl hc (by have:=hGG.tt;omega)
   rw [← hhh] at hA1 hGG htold
   have htt:totL hh.ls≤50000:=by have:=hGG.tt;omega
   have hln:hh.ls.length≤9000:=by have:=hGG.n;omega
   obtain ⟨J,hJ⟩:∃ J,J=ba (framesL 0 hh.ls):=⟨_,rfl⟩
   have hJz:J.size=totL hh.ls:=by rw [hJ,ba_size,frames_len]
   have hj:=journal_any hA1
   rw [← hJ] at hj
   have hwj:wrap64 ((J.size:Int) + 1)=(J.size:Int) + 1:=by unfold wrap64;omega
   have hpk:=pick_any a1 ((J.size:Int) + 1) wr (by omega) (by omega)
   have hpb:=pk_bd a1 ((J.size:Int) + 1) (by omega)
   obtain ⟨c,hc⟩:∃ c:Nat,pk a1 ((J.size:Int) + 1)=c:=⟨(pk a1 ((J.size:Int) + 1)).toNat,by omega⟩
   rw [hc] at hpk hpb
   have hcJ:c≤J.size:=by omega
   have hcl:(c:Int)≤(J.size:Int):=by omega
   obtain ⟨K,hK⟩:∃ K,K=wholeK c hh.ls:=⟨_,rfl⟩
   have hgd:=hGG.md.good.take K
   have hrl:=run_ls _ (hh.ls.take K) rfl hgd
   have hrd:Rd 0 (J.extract 0 c).data.toList (hh.ls.take K):=by
    rw [ext_data,hJ,ba_data,List.drop_zero,hK]
    exact torn hh.ls 0 c (by omega) hGG.ok.ls (by rw [← hJz];exact hcJ)
   obtain ⟨Y,hY⟩:∃ Y,Y=J.extract 0 c:=⟨_,rfl⟩
   have hYz:Y.size≤100000:=by
    rw [hY,ByteArray.size_extract]
    omega
   rw [← hY] at hrd
   have hG3:=hG2.out.below hbl
   have hre:=restore_any Y (hh.ls.take K) wr hG3.d.h hYz hrd
   have hgT:runH (hh.ls.take K)=tornH hh c:=by rw [tornH,Int.toNat_natCast,← hK]
   rw [hgT] at hrl
   obtain ⟨X0,hX0⟩:=htold c (by rw [← hJz];exact hcJ)
   have hTG:=hGG.torn (by omega) c
   obtain ⟨g,hg⟩:∃ g,g=tornH hh c:=⟨_,rfl⟩
   rw [← hg] at hgT hX0 hTG
   have hOg:=hTG.ok
   have hts:wtL ts≤7530:=by omega
   have ht30:ts.length≤30:=by omega
   have htsl:ts.length≤7530:=by have:=len_wt ts;omega
   have HJZ:=hidE hJz
   have hJ5:J.size≤50000:=by omega
   have HGD:=hidE hgd
   have HGT:=hidE hgT
   have HY:=hidE hY
   have HX0:=hidE hX0
   have HOG:=hidE hOg
   have HTG:=hidE hTG
   have HBL:=hidE hbl
   have HTL:=hidE htl
   have HG3:=hidE hG3
   have hit:=fun W hW=>itoaN (c:Nat) W hW (by omega) (by omega)
   have zi:=itoaZ (c:Nat) (by omega) (by omega)
   have zt:(ba (textL ts)).size≤7530:=by rw [ba_size,text_len];exact hts
   have HTX:Hid (ba (textL ts) ++ ⟨#[116,101,97,114,32]⟩ ++ eb (Lib.itoa (c:Nat)) ++ ⟨#[10,116,117,114,110,10,101,118,101,110,116,115,32,45,49,10]⟩=ba (textL ts ++ (tearL c ++ tTurnEv))):=by
    show _=_
    apply dba_ext
    simp [ba_data,eb_list,tearL,tTurnEv,dTear]
   have zT:(ba (textL ts ++ (tearL c ++ tTurnEv))).size≤9000:=by
    rw [← HTX.out]
    simp only [ByteArray.size_append]
    have e1:(⟨#[116,101,97,114,32]⟩:ByteArray).size=5:=rfl
    have e2:(⟨#[10,116,117,114,110,10,101,118,101,110,116,115,32,45,49,10]⟩:ByteArray).size=16:=rfl
    omega
   obtain ⟨tx,htx⟩:∃ t,t=ba (textL ts):=⟨_,rfl⟩
   obtain ⟨ix,hix⟩:∃ t,t=eb (Lib.itoa (c:Nat)):=⟨_,rfl⟩
   obtain ⟨TX,hTX⟩:∃ t,t=ba (textL ts ++ (tearL c ++ tTurnEv)):=⟨_,rfl⟩
   have HTXD:Hid (TX.data.toList=textL ts ++ (tearL c ++ tTurnEv)):=by show _=_;rw [hTX,ba_data]
   rw [← htx] at zt HTX ⊢
   rw [← hix] at zi HTX hit
   rw [← hTX] at zT HTX
   have HIT:=hidE hit
   clear hA1 htl hwt HS hGG htold hJ hbl hgd hrd hY hgT hg hG3 hX0 hTG hOg hhh hK htx hix hTX hit hc hJz
   go_wp2_with fail
   refine hj.mono ?_
   rintro x w5 ⟨rfl,hw5⟩
   subst w5
   go_wp2_with fail
   refine hpk.mono ?_
   rintro x w5 ⟨rfl,hw5⟩
   subst w5
   clear hpk
   go_wp2_with fail
   refine hj.mono ?_
   rintro x w5 ⟨rfl,hw5⟩
   subst w5
   clear hj
   go_wp2_with fail
   rw [← HY.out]
   refine hre.mono ?_
   rintro x w6 ⟨⟨_,p2,s2,c2,rfl,hA6⟩ | ⟨hng,_⟩,hb6⟩
   rotate_left
   ·exact absurd HGD.out hng
   rw [HGT.out] at hA6
   have HA6:=hidE hA6
   have HG6:Hid (GlobT w6):=HG3.out.below hb6
   have HB6:Hid (Below w2.heap.size w2 w6):=HBL.out.trans (hb6.mono HBL.out.size)
   have hi6:=HIT.out w6 HG6.out.d.h.ev.num
   clear hre hA6 hb6
   go_wp2_with fail
   refine hi6.mono ?_
   rintro x w7 ⟨rfl,hb7⟩
   have HB7:Hid (Below w2.heap.size w2 w7):=HB6.out.trans (hb7.mono HB6.out.size)
   have HA7:Hid (HsAt w7 wr.heap.size p2 s2 c2 g):=HA6.out.below hb7
   have HG7:Hid (GlobT w7):=HG6.out.below hb7
   have hses:=dsession_any TX w7 HG7.out.d zT
   rw [HTXD.out,HX0.out] at hses
   clear hi6 hb7
   go_wp2_with fail
   rw [HTX.out]
   refine hses.mono ?_
   rintro x w8 ⟨rfl,hb8⟩
   obtain ⟨E,hE⟩:∃ E,E=eventsT g (-1):=⟨_,rfl⟩
   obtain ⟨T1,hT1⟩:∃ T,T=turnT g:=⟨_,rfl⟩
   have hev:=events_told HOG.out
   have htn:=turn_no HOG.out
   rw [← hE] at hev
   rw [← hT1] at htn
   have hspl:=split_end X0 T1 E htn hev.2
   have hSL:(X0 ++ 10 :: (T1 ++ 10 :: (E ++ [10]))).length≤400000000:=by
    rw [hE,hT1,← HX0.out]
    unfold sesT
    have h1:=sess_len (splitL (Lib.trimSuffix (textL ts ++ (tearL c ++ tTurnEv)) [10])) 0 hs0 dkg_zero (by
     rw [wt_split]
     have h2:=trim_len (textL ts ++ (tearL c ++ tTurnEv))
     have h3:(textL ts ++ (tearL c ++ tTurnEv)).length=TX.size:=by rw [← HTXD.out];exact Array.length_toList
     omega)
    rw [split_all ts c HTL.out] at h1 ⊢
    rw [List.length_append] at h1
    simp only [List.length_cons,List.length_nil] at h1
    omega
   rw [← hE,← hT1]
   obtain ⟨S,hS⟩:∃ S,S=X0 ++ 10 :: (T1 ++ 10 :: (E ++ [10])):=⟨_,rfl⟩
   rw [← hS] at hspl hSL ⊢
   have HG8:Hid (GlobT w8):=HG7.out.below hb8
   have HA8:Hid (HsAt w8 wr.heap.size p2 s2 c2 g):=HA7.out.below hb8
   have HB8:Hid (Below w2.heap.size w2 w8):=HB7.out.trans (hb8.mono HB7.out.size)
   obtain ⟨ml,hml⟩:=HG8.out.d.h.ev.num.ml
   have hSp:=Tryz.strings_Split (ba S) ⟨#[10]⟩ ml w8 (by rw [ba_size];omega) hml (by decide)
   obtain ⟨P,hP⟩:∃ P,P=Lib.splitB ⟨#[10]⟩ 0 (Lib.countB (ba S) ⟨#[10]⟩) (ba S):=⟨_,rfl⟩
   have hPl:P.length=Lib.countB (ba S) ⟨#[10]⟩ + 1:=by rw [hP];exact Lib.splitB_all ⟨#[10]⟩ (by decide) 0 _ _ rfl
   have hPd:P.map (fun b=>b.data.toList)=splitL X0 ++ [T1,E,[]]:=by
    rw [hP,← hspl]
    refine (Lib.splitB_data ⟨#[10]⟩ 0 _ (ba S)).trans ?_
    have:=split_is _ S (Nat.le_refl _)
    rw [← ba_data S] at this
    rw [ba_data] at this ⊢
    exact this
   obtain ⟨L,hL⟩:∃ L,L=(splitL X0).length:=⟨_,rfl⟩
   have hL1:1≤L:=by
    have:=wt_split X0
    rw [hL]
    cases hx:splitL X0 with
    | nil=>rw [hx] at this;simp [wtL] at this
    | cons a b=>simp
   have hLb:L≤400000002:=by
    have h1:=len_wt (splitL X0)
    rw [wt_split] at h1
    rw [hS,List.length_append] at hSL
    omega
   have hPn:P.length=L + 3:=by
    have:=congrArg List.length hPd
    rw [List.length_map,List.length_append] at this
    rw [this,hL];rfl
   have hget:∀ j t,(splitL X0 ++ [T1,E,[]])[j]?=some t→P[j]?=some (ba t):=fun j t hj=>by
    rw [← hPd,List.getElem?_map] at hj
    obtain ⟨y,hy,rfl⟩:=Option.map_eq_some_iff.1 hj
    rw [hy,ba_of]
   have hg0:P[L]?=some (ba T1):=hget L T1 (by rw [List.getElem?_append_right (by omega),hL,Nat.sub_self];rfl)
   have hg1:P[L + 1]?=some (ba E):=hget (L + 1) E (by rw [List.getElem?_append_right (by omega),hL,show (splitL X0).length + 1 - (splitL X0).length=1 by omega];rfl)
   rw [← hP,← hPl,hPn] at hSp
   obtain ⟨W9,hW9⟩:∃ W,W=w8.alloc (.cells (P.map Value.string).toArray 9):=⟨_,rfl⟩
   rw [← hW9] at hSp
   have hb9:Below w8.heap.size w8 W9:=by rw [hW9];exact (Below.refl _ _).alloc (Nat.le_refl _) _
   have k0:W9.cell? ⟨w8.heap.size,L,none⟩=some (.string (ba T1)):=by
    rw [hW9,World.cell?,World.alloc_heap_new]
    simp [hg0]
   have k1:W9.cell? ⟨w8.heap.size,L + 1,none⟩=some (.string (ba E)):=by
    rw [hW9,World.cell?,World.alloc_heap_new]
    simp [hg1]
   obtain ⟨n,hn⟩:∃ n,n=L + 3:=⟨_,rfl⟩
   rw [← hn] at hSp
   have HG9:Hid (GlobT W9):=HG8.out.below hb9
   have HA9:Hid (HsAt W9 wr.heap.size p2 s2 c2 g):=HA8.out.below hb9
   have HB9:Hid (Below w2.heap.size w2 W9):=HB8.out.trans (hb9.mono HB8.out.size)
   have hn3:(3:Int) < (n:Int):=by omega
   have hw3:wrap64 ((n:Int) - 3)=(L:Int):=by unfold wrap64;omega
   have hw2:wrap64 ((n:Int) - 2)=((L + 1:Nat):Int):=by unfold wrap64;omega
   have hb0:(0:Int)≤(L:Int)∧(L:Int) < (n:Int):=by omega
   have hb1:(0:Int)≤((L + 1:Nat):Int)∧((L + 1:Nat):Int) < (n:Int):=by omega
   have HEV:=hidE hev.1
   have HT1:=hidE hT1
   have HE:=hidE hE
   clear hspl hSL hS hb8 hml hP hPl hPd hPn hget hg0 hg1 hW9 hev htn hT1 hE hL hses hn hb9
   go_wp2_with fail
   refine hSp.mono ?_
   rintro x w9 ⟨rfl,hw9⟩
   subst w9
   clear hSp
   go_wp2_with fail
   obtain ⟨W0,hW0⟩:∃ W,W=W9.drew:=⟨_,rfl⟩
   have hb00:Below W9.heap.size W9 W0:=by rw [hW0];exact below_drew _
   have hU:=up_ne
   have hA:=anyW_ne
   have j0:=(hb00.cell (p:=⟨w8.heap.size,L,none⟩) (World.block_lt_of_cell? _ _ k0)).trans k0
   have j1:=(hb00.cell (p:=⟨w8.heap.size,L + 1,none⟩) (World.block_lt_of_cell? _ _ k1)).trans k1
   have f0:=fun n:Up W0=>n.cell j0
   have HA0:Hid (HsAt W0 wr.heap.size p2 s2 c2 g):=HA9.out.below hb00
   have HG0:Hid (GlobT W0):=HG9.out.below hb00
   have HB0:Hid (Below w2.heap.size w2 W0):=HB9.out.trans (hb00.mono HB9.out.size)
   have hTu:=turn_any HA0.out.bk
   have hgn:=HOG.out.n
   have hg0':=HOG.out.inv.n0
   have hgl:g.ls.length≤9000:=by have:=HTG.out.n;omega
   have hIt:=itoaN g.bk.n W0 HG0.out.d.h.ev.num (by omega) (by omega)
   have zn:=itoaZ g.bk.n (by omega) (by omega)
   have HTU:Hid ((⟨#[116,117,114,110,32]⟩:ByteArray) ++ eb (Lib.itoa g.bk.n)=ba T1):=by
    show _=_
    rw [HT1.out]
    apply dba_ext
    simp [turnT,dTurn,ba_data,eb_list]
   have hCo:=fun W=>Tryz.strings_Count_one (ba E) 124 W
   rw [ba_data,show Lib.countByte E 124=(srt (asOf g.bk (tOf g.bk (-1)))).length from HEV.out] at hCo
   obtain ⟨q,hq⟩:∃ q,q=(srt (asOf g.bk (tOf g.bk (-1)))).length:=⟨_,rfl⟩
   have HAS:Hid (∀ W,Below W0.heap.size W0 W→Calls Tryz.prog 21 #[.pointer (some ⟨p2,0,none⟩),.int .i64 (-1)] W fun r w'=>∃ v,r = .returned v∧(∃ ad cp,v = .slice ad q cp)∧Below W.heap.size W w'):=fun W hb=>by
    refine (as_any (HA0.out.below hb).bk (by have:=HOG.out.inv.full;omega) (-1)).mono ?_
    rintro r w' ⟨v,rfl,ho,hbb⟩
    rw [← hq] at ho
    exact ⟨v,rfl,own_lenN ho,hbb⟩
   rw [← hq] at hCo
   obtain ⟨nb,hnb⟩:∃ b,b=g.bk.n:=⟨_,rfl⟩
   rw [← hnb] at hTu hIt zn HTU
   obtain ⟨ix2,hix2⟩:∃ b,b=eb (Lib.itoa nb):=⟨_,rfl⟩
   rw [← hix2] at hIt zn HTU
   obtain ⟨bT,hbT⟩:∃ b,b=ba T1:=⟨_,rfl⟩
   obtain ⟨bE,hbE⟩:∃ b,b=ba E:=⟨_,rfl⟩
   rw [← hbT] at HTU f0
   rw [← hbE] at hCo j1
   have HJ1:=hidE j1
   have HW0:=hidE hW0
   have HCO:=hidE hCo
   clear hb00 hW0 j0 j1 k0 k1 hgn hg0' hgl hq hnb hix2 hbT hbE hCo
   refine wp_region_stop (fun _ _ _=>False) [(.pure,0),(.pure,1),(.pure,2),(.pure,3),(.pure,4),(.pure,5),(.pure,6),(.read,7),(.pure,8),(.pure,9),(.pure,10),(.make,11),(.make,12),(.pure,13),(.pure,14),(.pure,15),(.pure,16),(.pure,17),(.pure,18),(.pure,19),(.pure,20),(.read,21),(.pure,23),(.pure,24),(.pure,25),(.make,22),(.make,26),(.make,27),(.pure,28),(.pure,29),(.pure,30)] (by kernel_rfl) (by kernel_rfl) (fun ch a w hx=>False.elim hx) ?_
   rw [← HW0.out]
   repeat ((first | refine stop_p rfl ?_ | refine stop_q rfl ?_);go_big_quiet_step (fail);refine wpQuiet_nil ?_)
   refine stop_n rfl ?_
   go_wp2_with fail
   refine hTu.mono ?_
   rintro x wa ⟨rfl,hwa⟩
   subst wa
   go_wp2_with fail
   refine ⟨rfl,Below.refl _ _,?_⟩
   refine stop_n rfl ?_
   go_wp2_with fail
   refine hIt.mono ?_
   rintro x wb ⟨rfl,hbb⟩
   go_wp2_with fail
   refine ⟨rfl,hbb,?_⟩
   clear hTu hIt
   have f1:=fun n:Up wb=>n.cell ((hbb.cell (p:=⟨w8.heap.size,L + 1,none⟩) (World.block_lt_of_cell? _ _ HJ1.out)).trans HJ1.out)
   have htt1:(bT.toList == bT.toList)=true:=by simp
   refine stop_p rfl ?_
   go_big_quiet_step (fail)
   refine wpQuiet_nil ?_
   rw [HTU.out]
   repeat ((first | refine stop_p rfl ?_ | refine stop_q rfl ?_);go_big_quiet_step (fail);refine wpQuiet_nil ?_)
   refine stop_n rfl ?_
   go_wp2_with fail
   refine (HCO.out wb).mono ?_
   rintro x wc ⟨rfl,hwc⟩
   subst wc
   go_wp2_with fail
   refine ⟨rfl,Below.refl _ _,?_⟩
   refine stop_n rfl ?_
   go_wp2_with fail
   refine (HAS.out wb hbb).mono ?_
   rintro x wd ⟨v,rfl,⟨ad,cp,rfl⟩,hbd⟩
   go_wp2_with fail
   refine ⟨rfl,hbd,?_⟩
   refine stop_n rfl ?_
   go_wp2_with fail
   refine ⟨rfl,Below.refl _ _,?_⟩
   have HBF:Hid (Below w.heap.size w wd):=HB2.out.trans ((HB0.out.trans ((hbb.trans (hbd.mono hbb.size)).mono HB0.out.size)).mono HB2.out.size)
   repeat ((first | refine stop_p rfl ?_ | refine stop_q rfl ?_);go_big_quiet_step (fail);refine wpQuiet_nil ?_)
   refine stop_nil ?_
   clear f0 f1 hbb hbd
   go_wp2
   go_ret
   exact ⟨rfl,HBF.out⟩
theorem tears_walk2 (ao:Option Addr) (cap:Nat) (l:List (List UInt8)) (a1:Int) (w:World) (hg:GlobT w) (hev:∀ t ∈ l,t.length≤maxLen) (hat:StrsC w ao l) (hcp:l.length≤cap) (hmx:cap≤maxLen) (hwf:(Lit.int .i64 a1).wf=true) :
  Calls Tryz.prog 3 #[.slice ao l.length cap,.int .i64 a1] w fun e w'=>e = .returned (.bool true)∧Below w.heap.size w w':=tears_walk ao cap l a1 w hg hev hat hcp hmx hwf
end Go.Proofs.YtbleojodidbhiaaGreatDoor
namespace Go.Proofs.YtbleojodidbhiaaGreatDoor
open Go.RowKit
theorem whiteX:WhiteExtra Tryz.prog Tryz.lays199_ren where
 n6:=by kernel_rfl
 y6:=by kernel_rfl
 c3:=by kernel_rfl
 c49:=by kernel_rfl
 c193:=by kernel_rfl
 c194:=by kernel_rfl
 c196:=by kernel_rfl
 c198:=by kernel_rfl
theorem white_of {w:World} (h:Lib.VarReads Tryz.prog w "unicode.White_Space" Lib.whiteData):Lib.WhiteTab 1 w:=whiteTab_of_reads Tryz.lays199 whiteX h
theorem spaceType:(Tryz.prog.globals[0]?).map (·.type)=some 57:=by kernel_rfl
end Go.Proofs.YtbleojodidbhiaaGreatDoor
