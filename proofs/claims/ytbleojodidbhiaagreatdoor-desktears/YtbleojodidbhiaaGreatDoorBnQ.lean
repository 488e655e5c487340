/-  -/
import Derived.Test.YtbleojodidbhiaaGreatDoorBnD
import Derived.Test.YtbleojodidbhiaaGreatDoorBnI
import Derived.Test.YtbleojodidbhiaaGreatDoorShelf
import Derived.Shelf.SlSortCmp.NoneTotal
import Derived.Test.YtbleojodidbhiaaGreatDoorBnEi
import Derived.Test.YtbleojodidbhiaaGreatDoorBnP
namespace Go.Proofs.YtbleojodidbhiaaGreatDoor
open Go.RowKit Go.Sort
def srt (l:List Ev):List Ev:=(pdq (ltOf cmpE) l.toArray 0 l.toArray.size (Lib.bitLen l.toArray.size) true true).toList
theorem srt_spec (l:List Ev):PermIn 0 l.length l.toArray (srt l).toArray∧SortedIn (ltOf cmpE) 0 l.length (srt l).toArray:=by
 have h:=pdq_sorts (ltOf cmpE) swo_cmp l.toArray 0 l.toArray.size (Lib.bitLen l.toArray.size) true true (Nat.zero_le _) (Nat.le_refl _) (Or.inl rfl)
 unfold srt
 simpa using h
theorem srt_len (l:List Ev):(srt l).length=l.length:=by simpa using (srt_spec l).1.1
theorem srt_perm (l:List Ev):(srt l).Perm l:=by
 have h:=(srt_spec l).1.2.2
 rw [Array.toList_extract,Array.toList_extract] at h
 simp only [List.extract_eq_take_drop] at h
 simpa [List.take_of_length_le (Nat.le_of_eq (srt_len l))] using h
theorem srt_sorted (l:List Ev):(srt l).Pairwise fun x y=>ltOf cmpE y x=false:=by
 rw [List.pairwise_iff_getElem]
 intro i j hi hj hij
 have h:=(srt_spec l).2 i j (Nat.zero_le _) hij (by rw [← srt_len l];exact hj)
 rw [getElem!_pos (srt l).toArray i (by simpa using hi),getElem!_pos (srt l).toArray j (by simpa using hj)] at h
 simpa using h
end Go.Proofs.YtbleojodidbhiaaGreatDoor
namespace Go.Proofs.YtbleojodidbhiaaGreatDoor
open Go.RowKit
open Go.Sort hiding Below
theorem sortf_any {B:Nat} {v:Value} {l:List Ev} {w:World} (h:w.ownsRow B 93 7 v l.length (l.flatMap evC)) (hl:l.length≤1000000) :
  Calls Tryz.prog 48 #[v,.func (.func 49) #[] #[]] w fun e w'=>e = .returned (.tuple #[])∧w'.ownsRow B 93 7 v l.length ((srt l).flatMap evC)∧w.grownBy w' v.ownBlock:=by
 rcases own_form h with ⟨hv,hn,hx⟩ | ⟨g,cap,hv,_,hg,_⟩
 ·subst hv
  have e:l=[]:=List.length_eq_zero_iff.1 hn
  have hs:srt l=[]:=List.length_eq_zero_iff.1 (by rw [srt_len];exact hn)
  have hcon:=AnyF.slices_SortFunc_none { Tryz.sortF with } none 0 (.func (.func 49) #[] #[]) w
  refine Calls.mono hcon ?_
  rintro e' w' ⟨rfl,rfl⟩
  refine ⟨rfl,?_,⟨rfl,rfl,rfl,Nat.le_refl _,fun _ _ _=>rfl⟩⟩
  rw [hs,hn]
  exact World.ownsRow_nil _ _ _ _
 ·subst hv
  have hcon:=AnyQ.slices_SortFunc_eq Tryz.sortF 7 Tryz.isAgg93 Tryz.sizeOf93 evC evC_len evC_one cmpE swo_cmp 49 #[] g 0 cap l.toArray w
   (enters_of Tryz.func49 (by kernel_rfl) rfl) (fun _ _ _ _ x y=>compare_grow x y _) (holdsK_of_own evC_len h) hg (by simp;omega)
  have hcon':Calls Tryz.prog 48 #[.slice (some ⟨g,0,none⟩) l.length cap,.func (.func 49) #[] #[]] w _:=hcon
  refine hcon'.mono ?_
  rintro e' w' ⟨rfl,n,os,rfl⟩
  exact ⟨rfl,own_sorted (l':=srt l) evC_len h (srt_len l),grown_sorted _⟩
def tOf (b:Bk) (t:Int):Int:=if t < 0 then b.n else t
def asOf (b:Bk) (t:Int):List Ev:=(b.vs.filter (isAt t)).map (·.ev)
theorem map_snoc {α β:Type} (f:α→β) (l:List α) (k:Nat) (hk:k < l.length):(l.take (k + 1)).map f=(l.take k).map f ++ [f l[k]]:=by
 rw [List.take_succ_eq_append_getElem hk,List.map_append];rfl
set_option maxRecDepth 20000 in
set_option maxHeartbeats 8000000 in
theorem as_any {B pb:Nat} {sv:Value} {b:Bk} {w:World} (h:BookAt w B pb sv b) (hl:b.vs.length≤1000000) (t:Int) :
  Calls Tryz.prog 21 #[.pointer (some ⟨pb,0,none⟩),.int .i64 t] w fun r w'=>∃ v,r = .returned v∧w'.ownsRow w.heap.size 93 7 v (srt (asOf b (tOf b t))).length ((srt (asOf b (tOf b t))).flatMap evC)∧Below w.heap.size w w':=by
 obtain ⟨i0,hi,hz0,hz1,hz2⟩:=info_parts Tryz.infoEv
 obtain ⟨u,hu⟩:∃ u,u=tOf b t:=⟨_,rfl⟩
 rw [← hu]
 obtain ⟨W,hW⟩:∃ W,W=w.alloc (.cells #[.int .i64 u] 3):=⟨_,rfl⟩
 have hBW:Below w.heap.size w W:=by rw [hW];exact (Below.refl _ _).alloc (Nat.le_refl _) _
 have hcw:W.cell? ⟨w.heap.size,0,none⟩=some (.int .i64 u):=by rw [hW];simp
 have hsw:w.heap.size < W.heap.size:=by rw [hW];simp
 have HB:=h.below hBW
 have hth:=those_any HB hl 47 #[.pointer (some ⟨w.heap.size,0,none⟩)] (isAt u) (enters_of Tryz.func47 (by kernel_rfl) rfl)
  (fun W' x hb=>at_any x u w.heap.size W' (Nat.lt_of_lt_of_le hsw hb.size) (below_cell hb hcw))
 obtain ⟨fs,hfs⟩:∃ fs,fs=b.vs.filter (isAt u):=⟨_,rfl⟩
 have has:asOf b u=fs.map (·.ev):=by rw [hfs];rfl
 have hfl:fs.length≤1000000:=by rw [hfs];exact Nat.le_trans (List.length_filter_le _ _) hl
 rw [← hfs] at hth
 rw [has]
 have c1:(w.alloc (.cells #[.int .i64 t] 3)).cell? ⟨pb,1,none⟩=some (.int .i64 b.n):=(h.below ((Below.refl _ _).alloc (Nat.le_refl _) _)).c1
 have hne:pb ≠ w.heap.size:=by have:=h.lt;omega
 have hnz:w.heap.size ≠ pb:=by have:=h.lt;omega
 clear has hfs HB h
 have key:t < 0∧u=b.n∨¬ t < 0∧u=t:=by
  rw [hu];unfold tOf
  by_cases h0:t < 0
  ·exact Or.inl ⟨h0,by rw [if_pos h0]⟩
  ·exact Or.inr ⟨h0,by rw [if_neg h0]⟩
 clear hu
 go_enter Tryz.func21,Tryz.ntmps21
 rcases key with ⟨h0,rfl⟩ | ⟨h0,rfl⟩
 all_goals
  go_wp2_with fail
  rw [← hW]
  refine hth.mono ?_
  rintro e w1 ⟨v1,rfl,hown1,hb1⟩
  have hb01:Below w.heap.size w w1:=hBW.trans (hb1.mono hBW.size)
  clear hth hW hcw c1 hb1
  rcases own_form hown1 with ⟨hv,hn,hx⟩ | ⟨g,cap,hv,hgB,hgl,_⟩
  ·subst hv
   have hz:fs=[]:=List.length_eq_zero_iff.1 hn
   subst hz
   have hsr:srt []=[]:=List.length_eq_zero_iff.1 (by rw [srt_len];rfl)
   have hcs:=sortf_any (B:=w.heap.size) (l:=[]) (World.ownsRow_nil w1 _ _ _) (by simp)
   simp only [List.flatMap_nil,List.length_nil,hsr] at hcs
   have HS:Hid (srt []=[]):=hsr
   clear hsr
   go_wp2
   refine wp_loop_rounds 1 ?_
   rw [rounds_succ]
   go_wp2_with fail
   refine hcs.mono ?_
   rintro e w2 ⟨rfl,ho2,hg2⟩
   go_wp2
   go_ret
   refine ⟨_,rfl,?_,hb01.grown hg2 hb01.size (fun k hk=>by cases hk)⟩
   rw [List.map_nil,HS.out]
   exact ho2
  ·subst hv
   have hg0:w.heap.size≤g:=Nat.le_trans hBW.size hgB
   go_wp2
   go_loopw [5,18] (fun v i wr=>∃ k:Nat,k≤fs.length∧i = .int .i64 k∧wr.ownsRow w1.heap.size 93 7 v k (((fs.take k).map (·.ev)).flatMap evC)∧Below w1.heap.size w1 wr)
    (fun _ i _=>fs.length - (intOf i).toNat)
   case atStart=>exact ⟨0,Nat.zero_le _,rfl,World.ownsRow_nil _ _ _ _,Below.refl _ _⟩
   case round=>
    obtain ⟨k,hk,rfl,hv,hb⟩:=hrel
    by_cases hlt:k < fs.length
    ·obtain ⟨x,hx⟩:∃ x,x=fs[k]:=⟨_,rfl⟩
     have hcw:∀ j,j < 9→wr.cell? ⟨g,k * 9 + j,none⟩=(vrC x)[j]?:=fun j hj=>by
      rw [hb.cell (p:=⟨g,k * 9 + j,none⟩) hgl,(own_cell vrC_len hown1 k j hlt hj).1,hx]
     have HF:=map_snoc Vr.ev fs k hlt
     rw [← hx] at HF
     obtain ⟨⟨id,item,kind,qty,price,ofI,day⟩,fr,upTo⟩:=x
     have q0:=hcw 0 (by omega)
     have q1:=hcw 1 (by omega)
     have q2:=hcw 2 (by omega)
     have q3:=hcw 3 (by omega)
     have q4:=hcw 4 (by omega)
     have q5:=hcw 5 (by omega)
     have q6:=hcw 6 (by omega)
     have q7:=hcw 7 (by omega)
     have q8:=hcw 8 (by omega)
     simp only [vrC,List.getElem?_cons_zero,List.getElem?_cons_succ,Nat.add_zero] at q0 q1 q2 q3 q4 q5 q6 q7 q8
     clear hcw hx
     have HF':Hid (_=_):=HF
     clear HF
     have HO:Hid (wr.ownsRow _ _ _ _ _ _):=hv
     clear hv
     go_wp2_with (first
      | (at_builtin;refine wpList_append_own _ rfl _ _ 53 rfl w1.heap.size 93 i0 evZ 7 64 Tryz.underlying53 hi hz0 hz1 hz2 rfl (by decide) _ _ _ rfl ((HO.out.alloc _).alloc _) ⟨wr.heap.size + 1,0,none⟩ 1 1 (evC ⟨id,item,kind,qty,price,ofI,day⟩) rfl rfl ?d1 ?d2 ?d3 ?d4 ?d5 ?_)
      | go_in)
     case d1=>exact fun _ _ h=>h
     case d2=>exact evC_one _
     case d3=>unfold maxLen;omega
     case d4=>omega
     case d5=>have:=hb.size;simp;omega
     ·intro v' w2 hown2 hgr _
      go_wp2
      go_roundw
      case rel=>
       refine ⟨k + 1,by omega,by go_num,?_,?_⟩
       ·rw [HF'.out,flatMap_snoc,List.map_take]
        exact hown2
       ·exact ((hb.alloc hb.size _).alloc (by have:=hb.size;simp;omega) _).grown hgr (by have:=hb.size;simp;omega) (fun j hj=>(HO.out.lt j hj).1)
      case measure=>simp [intOf];omega
    ·have e:k=fs.length:=by omega
     subst e
     rw [List.take_length] at hv
     have hv':wr.ownsRow w.heap.size 93 7 u5 (fs.map (·.ev)).length ((fs.map (·.ev)).flatMap evC):=by
      rw [List.length_map];exact own_below hv (Below.refl _ _) hb01.size
     have hcs:=sortf_any hv' (by rw [List.length_map];exact hfl)
     have hrow:∀ j,u5.ownBlock=some j→w.heap.size≤j:=fun j hj=>(hv'.lt j hj).1
     have hbw:Below w.heap.size w wr:=hb01.trans (hb.mono hb01.size)
     have hln:(srt (fs.map (·.ev))).length=(fs.map (·.ev)).length:=srt_len _
     have HL:Hid ((srt (fs.map (·.ev))).length=(fs.map (·.ev)).length):=hln
     clear hv hv' hln
     go_wp2_with fail
     refine hcs.mono ?_
     rintro e w3 ⟨rfl,ho3,hg3⟩
     go_wp2
     go_ret
     refine ⟨_,rfl,?_,hbw.grown hg3 hbw.size hrow⟩
     rw [HL.out]
     exact ho3
end Go.Proofs.YtbleojodidbhiaaGreatDoor
