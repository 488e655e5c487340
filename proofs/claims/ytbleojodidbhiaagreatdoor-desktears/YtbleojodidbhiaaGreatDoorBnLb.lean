/-  -/
import Derived.Test.YtbleojodidbhiaaGreatDoorBnA
import Derived.Test.YtbleojodidbhiaaGreatDoorBnShb
import Derived.Lib.Builder
import Derived.Lib.AppendStr
import Derived.Laws.Externs
import Derived.Test.YtbleojodidbhiaaGreatDoorBnDm
import Derived.Test.YtbleojodidbhiaaGreatDoorBnLd
import Derived.Test.YtbleojodidbhiaaGreatDoorBnB
import Derived.Test.YtbleojodidbhiaaGreatDoorBnKy
namespace Go.Proofs.YtbleojodidbhiaaGreatDoor
open Go.RowKit
theorem bld_size:(Tryz.prog.info? 64).map (·.size)=some 2:=by kernel_rfl
theorem bld_lies:liesAt Tryz.prog Tryz.prog.depth 64 (2 / Tryz.prog.cellsOf 64) 0 64 1=true:=by kernel_rfl
theorem byte_info:(Tryz.prog.info? 5).map (fun i=>(i.zero,i.size,i.bytes))=some (some (.int .u8 0),1,1):=by kernel_rfl
set_option maxHeartbeats 1000000 in
set_option maxRecDepth 100000 in
theorem check_used (b:Nat) (w:World) (h0:w.cell? ⟨b,0,none⟩=some (.pointer (some ⟨b,0,none⟩))) :
  Calls Tryz.prog 55 #[.pointer (some ⟨b,0,none⟩)] w fun e w'=>e = .returned (.tuple #[])∧w'=w:=by
 obtain ⟨j,hj,_⟩:=Option.map_eq_some_iff.1 bld_size
 go_enter Tryz.func55,Tryz.ntmps55
 go_wp2
 rw [Lib.run_neq_ptr_same w _ Tryz.underlying61 hj]
 go_wp2
 go_end0
 exact ⟨rfl,rfl⟩
set_option maxHeartbeats 1000000 in
set_option maxRecDepth 100000 in
theorem check_fresh (b:Nat) (w:World) (h0:w.cell? ⟨b,0,none⟩=some (.pointer none)) (hsh:w.shape? b=some (64,2)) (hfz:w.frozen? ⟨b,0,none⟩=false) :
  Calls Tryz.prog 55 #[.pointer (some ⟨b,0,none⟩)] w fun e w'=>e = .returned (.tuple #[])∧w'=w.setCell ⟨b,0,none⟩ (.pointer (some ⟨b,0,none⟩)):=by
 obtain ⟨j,hj,hjs⟩:=Option.map_eq_some_iff.1 bld_size
 go_enter Tryz.func55,Tryz.ntmps55
 go_wp2
 rw [Lib.run_to_unsafe w ⟨b,0,none⟩ Tryz.underlying61 Tryz.underlying140 hj (by rw [hjs];decide) hsh (Nat.zero_lt_succ 1)]
 simp only [Result.andThen]
 rw [Oper.upon_value]
 go_wp2
 rw [run_callFunc_extern Tryz.func102 (by kernel_rfl) (by kernel_rfl) (by kernel_rfl) (e:=Extern.AbiNoEscape.same) (by kernel_rfl)]
 rw [Lib.run_noEscape]
 simp only [Result.andThen]
 rw [Oper.upon_value]
 go_wp2
 rw [Lib.run_from_unsafe w ⟨b,0,none⟩ Tryz.underlying140 Tryz.underlying61 hj hsh bld_lies]
 simp only [Result.andThen]
 rw [Oper.upon_value]
 go_wp2
 go_end0
 exact ⟨rfl,rfl⟩
theorem check_any (B b:Nat) (bs:List Value) (w:World) (h:Lib.IsBuilder 64 5 B b bs w) :
  Calls Tryz.prog 55 #[.pointer (some ⟨b,0,none⟩)] w fun e w'=>e = .returned (.tuple #[])∧(Lib.BuilderAt 64 5 B b (.pointer (some ⟨b,0,none⟩)) bs w'∧Below B w w'):=by
 rcases h with h | h
 ·refine (check_fresh b w h.cell0 h.shape h.frozen0).mono ?_
  rintro e w' ⟨rfl,rfl⟩
  exact ⟨rfl,h.used _,(Below.refl B w).setCell (p:=⟨b,0,none⟩) h.1 _⟩
 ·refine (check_used b w h.cell0).mono ?_
  rintro e w' ⟨rfl,rfl⟩
  exact ⟨rfl,h,Below.refl B _⟩
set_option maxHeartbeats 1000000 in
set_option maxRecDepth 100000 in
theorem bwrite_any (B b:Nat) (bs:List Value) (s:ByteArray) (w:World) (h:Lib.IsBuilder 64 5 B b bs w) (hlen:bs.length + s.size≤140737488355328) (hBw:B≤w.heap.size) :
  Calls Tryz.prog 29 #[.pointer (some ⟨b,0,none⟩),.string s] w fun e w'=>e = .returned (.tuple #[.int .i64 s.size,.nilIface])∧(Lib.BuilderAt 64 5 B b (.pointer (some ⟨b,0,none⟩)) (bs ++ Lib.strCells s) w'∧Below B w w'):=by
 obtain ⟨i0,hi,hz0,hz1,hz2⟩:=info_parts byte_info
 go_enter Tryz.func29,Tryz.ntmps29
 go_wp2_with fail
 refine (check_any B b bs _ h).mono ?_
 rintro e w1 ⟨rfl,h1,hb1⟩
 obtain ⟨hB,v,hbk,hown,hne⟩:=h1
 have c0:w1.cell? ⟨b,0,none⟩=some (.pointer (some ⟨b,0,none⟩)):=by rw [Lib.cell_of_heap hbk];rfl
 have c1:w1.cell? ⟨b,1,none⟩=some v:=by rw [Lib.cell_of_heap hbk];rfl
 go_wp2_with (at_builtin;refine Lib.wpList_append_own_string _ rfl _ _ 62 9 rfl B 5 i0 Tryz.underlying62 Tryz.underlying9 hi hz0 hz1 hz2 _ _ _ rfl hown s rfl ?c3 ?c4 ?c5 ?_)
 case c3=>unfold maxLen;omega
 case c4=>omega
 case c5=>have:=hb1.size;omega
 intro v' w2 hown' hgrow _
 have hlt:b < w1.heap.size:=Lib.BuilderAt.lt ⟨hB,v,hbk,hown,hne⟩
 have hb2:w2.heap[b]?=some (.cells #[.pointer (some ⟨b,0,none⟩),v] 64 (0,0)):=by
  rw [hgrow.block b hlt (fun e=>hne e.symm)]
  exact hbk
 have d0:w2.cell? ⟨b,0,none⟩=some (.pointer (some ⟨b,0,none⟩)):=by rw [Lib.cell_of_heap hb2];rfl
 have d1:w2.cell? ⟨b,1,none⟩=some v:=by rw [Lib.cell_of_heap hb2];rfl
 have f1:w2.frozen? ⟨b,1,none⟩=false:=Lib.frozen_of_heap hb2 1
 obtain ⟨ao,n',cap,rfl⟩:∃ ao n' cap,v' = .slice ao n' cap:=by
  rcases hown'.2 with ⟨hv,_⟩ | ⟨g,cap,cur,hv,_⟩
  ·exact ⟨_,_,_,hv⟩
  ·exact ⟨_,_,_,hv⟩
 go_wp2
 go_ret2
 refine ⟨rfl,?_,?_⟩
 ·exact Lib.BuilderAt.put (T:=64) (e:=5) hB hb2 (bs':=bs ++ Lib.strCells s) (by simpa [Lib.strCells_length] using hown') (by decide)
 ·exact (hb1.grown hgrow (by have:=hb1.size;omega) (fun k hk=>(hown.lt k hk).1)).setCell (p:=⟨b,1,none⟩) hB _
theorem World_new (w:World) (o:Obj):(w.alloc o).heap[w.heap.size]?=some o:=by
 show (w.heap.push o)[w.heap.size]?=some o
 simp
theorem byteCells_append (a b:List UInt8):Lib.byteCells (a ++ b)=Lib.byteCells a ++ Lib.byteCells b:=by simp [Lib.byteCells]
theorem strCells_byte (s:ByteArray):Lib.strCells s=Lib.byteCells s.data.toList:=rfl
theorem bld_below {B b:Nat} {bs:List Value} {w w':World} (h:Lib.IsBuilder 64 5 B b bs w) (hb:Below w.heap.size w w'):Lib.IsBuilder 64 5 B b bs w':=by
 have one:∀ {p:Value},Lib.BuilderAt 64 5 B b p bs w→Lib.BuilderAt 64 5 B b p bs w':=fun {p} h=>by
  have hlt:=h.lt
  obtain ⟨hB,v,hbk,hown,hne⟩:=h
  exact ⟨hB,v,(hb.block b hlt).trans hbk,own_below hown hb (Nat.le_refl _),hne⟩
 rcases h with h | h
 ·exact Or.inl (one h)
 ·exact Or.inr (one h)
set_option maxRecDepth 20000 in
set_option maxHeartbeats 4000000 in
theorem lprint_any (ps:List Pst) (v:Value) (w:World) (h:PstsAt w v ps) (hl:ps.length≤10000) (hs:∀ p ∈ ps,I64 p.amt∧p.deb.size≤1000∧p.cre.size≤1000) :
  Calls Tryz.prog 133 #[v] w fun r w'=>r = .returned (.string ⟨(printL ps).toArray⟩)∧Below w.heap.size w w':=by
 obtain ⟨ad,nv,cv,hv⟩:∃ ad n cap,v = .slice ad n cap∧n=ps.length:=by
  rcases h with ⟨e,e2⟩ | ⟨g,o,c,e,_⟩
  ·exact ⟨none,0,0,e,by rw [e2];rfl⟩
  ·exact ⟨_,_,_,e,rfl⟩
 obtain ⟨rfl,hnn⟩:=hv
 subst hnn
 have HS:=hidE hs
 have HPA:Hid (PstsAt w (.slice ad ps.length cv) ps):=h
 clear h hs
 go_enter Tryz.func133,Tryz.ntmps133
 go_wp2
 obtain ⟨w0,hw0⟩:∃ W,W=w.alloc (.cells #[.pointer none,.slice none 0 0] 64):=⟨_,rfl⟩
 have hi0:Lib.IsBuilder 64 5 w.heap.size w.heap.size (Lib.byteCells (printL (ps.take 0))) w0:=by
  rw [hw0]
  refine Or.inl ⟨Nat.le_refl _,.slice none 0 0,World_new w _,?_,by simp [Value.ownBlock]⟩
  exact World.ownsRow_nil _ _ _ _
 have hb0:Below w.heap.size w w0:=by rw [hw0];exact (Below.refl _ _).alloc (Nat.le_refl _) _
 rw [← hw0]
 have HI0:=hidE hi0
 have HB0:=hidE hb0
 clear hi0 hb0 hw0
 go_loopw [8] (fun i wr=>∃ k:Nat,k≤ps.length∧i = .int .i64 k∧Hid (Lib.IsBuilder 64 5 w.heap.size w.heap.size (Lib.byteCells (printL (ps.take k))) wr)∧Hid (Below w.heap.size w wr)) (fun i _=>ps.length - (intOf i).toNat)
 case atStart=>exact ⟨0,Nat.zero_le _,rfl,HI0,HB0⟩
 case round=>
  obtain ⟨k,hk,rfl,HI,HB⟩:=hrel
  have hsw:=HB.out.size
  by_cases hlt:k < ps.length
  ·rcases HPA.out.below HB.out with ⟨_,e2⟩ | ⟨g,o,cp,e1,hg,hc⟩
   ·rw [e2] at hlt;exact absurd hlt (Nat.not_lt_zero _)
   ·simp only [Value.slice.injEq] at e1
    obtain ⟨rfl,_,rfl⟩:=e1
    obtain ⟨x,hx⟩:∃ x,x=ps[k]:=⟨_,rfl⟩
    have q0:=hc k 0 hlt (by omega)
    have q1:=hc k 1 hlt (by omega)
    have q2:=hc k 2 hlt (by omega)
    have hxs:=HS.out ps[k] (List.getElem_mem hlt)
    have hln:=printL_len (ps.take k) (fun p hp=>HS.out p (List.mem_of_mem_take hp))
    have htl:(ps.take k).length≤10000:=by rw [List.length_take];omega
    have HPS:Hid (printL (ps.take (k + 1))=printL (ps.take k) ++ pline ps[k]):=printL_snoc hlt
    rw [← hx] at q0 q1 q2 hxs HPS
    clear hx hc
    obtain ⟨d,c,m⟩:=x
    simp only [pstC,List.getElem?_cons_zero,List.getElem?_cons_succ,Nat.add_zero] at q0 q1 q2
    simp only at hxs
    have hm0:=hxs.1.1
    have hm1:=hxs.1.2
    have hd:=hxs.2.1
    have hcs:=hxs.2.2
    have hza:=amt_strsize m hm0 hm1
    obtain ⟨ts,hts⟩:∃ s,s=strOfNums (amt m):=⟨_,rfl⟩
    have hPr:=print_any m
    rw [← hts] at hza hPr
    have HAS:Hid (ts=strOfNums (amt m)):=hts
    obtain ⟨W1,hW1⟩:∃ W,W=wr.alloc (.cells #[.string d,.string c,.int .i64 m] 218):=⟨_,rfl⟩
    have hb1:Below wr.heap.size wr W1:=by rw [hW1];exact (Below.refl _ _).alloc (Nat.le_refl _) _
    have c0:W1.cell? ⟨wr.heap.size,0,none⟩=some (.string d)∧W1.cell? ⟨wr.heap.size,1,none⟩=some (.string c)∧W1.cell? ⟨wr.heap.size,2,none⟩=some (.int .i64 m):=by rw [hW1];simp
    have HW1:Hid (W1=wr.alloc (.cells #[.string d,.string c,.int .i64 m] 218)):=hW1
    clear hW1 hxs hts
    go_wp2_with fail
    rw [← HW1.out]
    refine wp_region_turn [(.pure,0),(.read,1),(.pure,4),(.read,5),(.pure,8),(.read,9),(.make,2),(.pure,3),(.pure,6),(.pure,7),(.pure,10),(.pure,11),(.turn,12)] (by kernel_rfl) (by kernel_rfl) ?_
    obtain ⟨W2,hW2⟩:∃ W,W=W1.drew:=⟨_,rfl⟩
    rw [← hW2]
    have hb2:Below W1.heap.size W1 W2:=by rw [hW2];exact below_drew _
    clear hW2
    have hb12:Below wr.heap.size wr W2:=hb1.trans (hb2.mono hb1.size)
    have f0:=fun n:Up W2=>n.cell (below_cellL hb2 c0.1)
    have f1:=fun n:Up W2=>n.cell (below_cellL hb2 c0.2.1)
    have f2:=fun n:Up W2=>n.cell (below_cellL hb2 c0.2.2)
    have hU:=up_ne
    have hA:=anyW_ne
    have HB12:=hidE hb12
    clear hb1 hb2 hb12 c0 q0 q1 q2
    repeat (first | refine turn_p rfl ?_ | refine turn_q rfl ?_);go_big_quiet_step (fail);refine wpQuiet_nil ?_
    refine turn_n rfl ?_
    go_wp2_with fail
    refine (hPr _ hm0 hm1).mono ?_
    rintro e W3 ⟨rfl,hb3⟩
    go_wp2_with fail
    refine ⟨rfl,hb3,?_⟩
    clear f0 f1 f2
    repeat (first | refine turn_p rfl ?_ | refine turn_q rfl ?_);go_big_quiet_step (fail);refine wpQuiet_nil ?_
    refine turn_t rfl ?_
    have hb13:Below wr.heap.size wr W3:=HB12.out.trans (hb3.mono HB12.out.size)
    have hI3:=bld_below HI.out hb13
    have hs3:=hb13.size
    have hB3:Below w.heap.size w W3:=HB.out.trans (hb13.mono hsw)
    obtain ⟨sx,hsx⟩:∃ s:ByteArray,s=ts ++ ⟨#[32]⟩ ++ d ++ ⟨#[32,102,114,111,109,32]⟩ ++ c ++ ⟨#[10]⟩:=⟨_,rfl⟩
    have hsd:sx.data.toList=pline ⟨d,c,m⟩:=by
     rw [hsx,HAS.out]
     unfold pline
     simp only [← strOf_byt]
     simp
    have hsz:sx.size≤2100:=by
     have:=pline_len ⟨d,c,m⟩ ⟨hm0,hm1⟩ hd hcs
     rw [← hsd] at this
     simpa using this
    have hwr:=bwrite_any w.heap.size w.heap.size _ sx W3 hI3 (by simp only [Lib.byteCells,List.length_map];omega) (by omega)
    have HI4:Hid (∀ w',Lib.BuilderAt 64 5 w.heap.size w.heap.size (.pointer (some ⟨w.heap.size,0,none⟩)) (Lib.byteCells (printL (ps.take k)) ++ Lib.strCells sx) w'→Lib.IsBuilder 64 5 w.heap.size w.heap.size (Lib.byteCells (printL (ps.take (k + 1)))) w'):=fun w' h=>by
     rw [HPS.out,byteCells_append,← hsd,← strCells_byte]
     exact Or.inr h
    have HB3:=hidE hB3
    rw [hsx] at hwr
    have HSX:=hidE hsx
    clear hsx hsd hI3 hb13 hB3 hb3
    go_wp2_with fail
    refine hwr.mono ?_
    rintro e W4 ⟨rfl,hI4,hb4⟩
    have HI5:=hidE (HI4.out W4 (by rw [HSX.out];exact hI4))
    have HB5:Hid (Below w.heap.size w W4):=HB3.out.trans hb4
    clear hwr hI4 hb4
    go_wp2_with fail
    refine ⟨rfl,?_⟩
    refine turn_nil ?_
    go_wp2
    go_roundw
    case rel=>exact ⟨k + 1,by omega,by go_num,HI5,HB5⟩
    case measure=>simp [intOf];omega
  ·obtain rfl:k=ps.length:=by omega
   rw [List.take_length] at HI
   have hst:=Tryz.Builder_String_any w.heap.size w.heap.size (printL ps) wr HI.out hsw
   go_wp2_with fail
   refine hst.mono ?_
   rintro e W4 ⟨rfl,hb4⟩
   have HB5:Hid (Below w.heap.size w W4):=HB.out.trans hb4
   clear hst hb4
   go_wp2
   go_ret
   exact ⟨rfl,HB5.out⟩
end Go.Proofs.YtbleojodidbhiaaGreatDoor
namespace Go.Proofs.YtbleojodidbhiaaGreatDoor
open Go.RowKit Go.Maps
theorem zero_intT (w:World):(zeroValue 3).run Tryz.prog w = .ok (.int .i64 0) w:=by kernel_rfl
structure IMap (W:World) (mb n:Nat) (D:DataW Value) (f:ByteArray→Int) (dom:ByteArray→Prop):Prop where
 map:W.ownsMap Tryz.prog 9 heldE mb n D
 at_:∀ x,D.atKey (keyB x) (.held (.int .i64 0)) = .held (.int .i64 (f x))
 has_:∀ x,has D (keyB x)=true ↔ dom x
section
variable {W w':World} {mb n:Nat} {D:DataW Value} {f:ByteArray→Int} {dom:ByteArray→Prop}
theorem IMap.same (h:IMap W mb n D f dom) (e:w'.heap[mb]?=W.heap[mb]?):IMap w' mb n D f dom:=⟨map_same h.map e,h.at_,h.has_⟩
theorem IMap.below (h:IMap W mb n D f dom) (hb:Below W.heap.size W w'):IMap w' mb n D f dom:=h.same (hb.block _ h.map.lt)
theorem IMap.lt (h:IMap W mb n D f dom):mb < W.heap.size:=h.map.lt
theorem imap_new (W:World):IMap (W.alloc (.map #[] 0)) W.heap.size 0 (.map []) (fun _=>0) (fun _=>False):=
 ⟨World.ownsMap_made W Tryz.prog 9 heldE,fun _=>rfl,fun x=>by simp [has_eq]⟩
theorem IMap.look (h:IMap W mb n D f dom) (x:ByteArray) (hx:x.size≤maxLen):(Instr.lookup 243 (.map (some mb)) (.string x) false).run Tryz.prog W = .ok (.int .i64 (f x)) W:=by
 obtain ⟨v,ps,h1,h2⟩:=h.map.lookup law_strT Tryz.underlying243 (zero_intT W) (zd:=.held (.int .i64 0)) (zp:=[]) rfl (key_str x hx)
 have h3:=heldE_inv h2
 rw [h.at_ x] at h3
 rw [h1,← held_inj h3]
theorem IMap.lookOk (h:IMap W mb n D f dom) (x:ByteArray) (hx:x.size≤maxLen) (hd:¬ dom x):(Instr.lookup 243 (.map (some mb)) (.string x) true).run Tryz.prog W = .ok (.tuple #[.int .i64 (f x),.bool false]) W:=by
 obtain ⟨v,ps,h1,h2⟩:=h.map.look_ok law_strT Tryz.underlying243 (zero_intT W) (zd:=.held (.int .i64 0)) (zp:=[]) rfl (key_str x hx)
 have h3:=heldE_inv h2
 rw [h.at_ x] at h3
 have h4:has D (keyB x)=false:=by
  cases e:has D (keyB x)
  ·rfl
  ·exact absurd ((h.has_ x).1 e) hd
 rw [h4] at h1
 rw [h1,← held_inj h3]
theorem IMap.put (h:IMap W mb n D f dom) {x:ByteArray} {k:Int} (hm:w'.ownsMap Tryz.prog 9 heldE mb (n + 1) (D.put (keyB x) (.held (.int .i64 k)))) :
  IMap w' mb (n + 1) (D.put (keyB x) (.held (.int .i64 k))) (fun z=>if z=x then k else f z) (fun z=>z=x∨dom z):=by
 have isM:IsMap D:=(h.map.canon law_strT).imp fun es ⟨e,_⟩=>e
 refine ⟨hm,fun z=>?_,fun z=>?_⟩
 ·by_cases e:z=x
  ·subst e;rw [if_pos rfl,atKey_put_same isM (keyB_key z)]
  ·rw [if_neg e,atKey_put_other (fun c=>e (keyB_inj c)),h.at_]
 ·by_cases e:z=x
  ·subst e;simp [has_put_same isM (keyB_key z)]
  ·rw [has_put_other (fun c=>e (keyB_inj c)),h.has_];simp [e]
theorem keys_of (h:IMap W mb n D f dom) {ss:List (List UInt8)} (hs:ss.Perm (strKeys D)):∃ ks:List ByteArray,Keys dom ks∧ss.mergeSort (fun x y=>decide (x≤y))=ks.map (fun x=>x.data.toList):=by
 obtain ⟨hn,hm⟩:=str_keys h.map
 have tr:∀ a b c:List UInt8,leB a b=true→leB b c=true→leB a c=true:=fun a b c h1 h2=>by simp only [leB,decide_eq_true_eq] at *;exact List.le_trans h1 h2
 have to':∀ a b:List UInt8,(leB a b || leB b a)=true:=fun a b=>by simp only [leB,Bool.or_eq_true,decide_eq_true_eq];exact List.le_total a b
 have hp:(ss.mergeSort leB).Perm (strKeys D):=(List.mergeSort_perm ss leB).trans hs
 have hpw:=List.pairwise_mergeSort tr to' ss
 refine ⟨(ss.mergeSort leB).map baOf,⟨?_,fun x=>?_,?_⟩,?_⟩
 ·refine List.pairwise_map.2 ((hp.nodup_iff.2 hn).imp fun hne e=>hne (baOf_inj e))
 ·rw [← h.has_ x,List.mem_map]
  show _ ↔ has D (.string x.data.toList)=true
  rw [← hm,← hp.mem_iff]
  constructor
  ·rintro ⟨l,hl,rfl⟩;exact hl
  ·intro hx;exact ⟨_,hx,baOf_of x⟩
 ·refine List.pairwise_map.2 (hpw.imp fun {a b} hab=>?_)
  simpa [leB,baOf_data] using hab
 ·rw [List.map_map]
  have e:((fun x:ByteArray=>x.data.toList) ∘ baOf)=id:=by funext l;rfl
  rw [e,List.map_id]
end
end Go.Proofs.YtbleojodidbhiaaGreatDoor
namespace Go.Proofs.YtbleojodidbhiaaGreatDoor
open Go.RowKit Go.Maps
def blcZ:Value:=.agg #[.string ⟨#[]⟩,.int .i64 0]
theorem Tryz.infoBlc:(Tryz.prog.info? 194).map (fun i=>(i.zero,i.size,i.bytes))=some (some blcZ,2,24):=by kernel_rfl
def blcC (f:ByteArray→Int) (k:ByteArray):List Value:=[.string k,.int .i64 (f k)]
theorem blcC_one (f:ByteArray→Int) (p:ByteArray):∀ u ∈ blcC f p,u.oneCell'=true:=by
 intro u hu
 simp only [blcC,List.mem_cons,List.not_mem_nil,or_false] at hu
 rcases hu with rfl | rfl <;> rfl
theorem bal_snoc (x:ByteArray) {ps:List Pst} {k:Nat} (hk:k < ps.length):bal x 0 (ps.take (k + 1))=bal1 x (bal x 0 (ps.take k)) ps[k]:=by
 rw [List.take_succ_eq_append_getElem hk]
 unfold bal
 rw [List.foldl_append]
 rfl
theorem accs_snoc {ps:List Pst} {k:Nat} (hk:k < ps.length) (x:ByteArray):x ∈ accs (ps.take (k + 1)) ↔ (x ∈ accs (ps.take k)∨x=ps[k].deb∨x=ps[k].cre):=by
 rw [List.take_succ_eq_append_getElem hk]
 unfold accs
 rw [List.flatMap_append,List.mem_append]
 simp
theorem imap_ext {W:World} {mb n:Nat} {D:DataW Value} {f f':ByteArray→Int} {dom dom':ByteArray→Prop} (h:IMap W mb n D f dom) (hf:∀ x,f' x=f x) (hd:∀ x,dom' x ↔ dom x):IMap W mb n D f' dom':=
 ⟨h.map,fun x=>by rw [hf,h.at_],fun x=>by rw [hd,h.has_]⟩
theorem enc_flat:∀ ks:List ByteArray,(ks.map fun x:ByteArray=>x.data.toList).map Go.Proofs.encStr=ks.flatMap fun x=>[Value.string x]
 | []=>rfl
 | k :: ks=>by
  have e:Go.Proofs.encStr k.data.toList = .string k:=by cases k;rfl
  simp only [List.map_cons,List.flatMap_cons,enc_flat ks,e]
  rfl
set_option maxRecDepth 20000 in
set_option maxHeartbeats 4000000 in
theorem trial_any (ps:List Pst) (v:Value) (w:World) (h:PstsAt w v ps) (hl:ps.length≤10000) (hs:∀ p ∈ ps,p.deb.size≤1000∧p.cre.size≤1000) :
  Calls Tryz.prog 138 #[v] w fun r w'=>∃ (u:Value) (ks:List ByteArray),r = .returned u∧Keys (fun x=>x ∈ accs ps) ks∧w'.ownsRow w.heap.size 194 2 u ks.length (ks.flatMap (blcC fun k=>bal k 0 ps))∧Below w.heap.size w w':=by
 obtain ⟨i0,hi,hz0,hz1,hz2⟩:=info_parts Tryz.infoBlc
 have hmm:=@run_makeMap Tryz.prog
 obtain ⟨ad,nv,cv,hv⟩:∃ ad n cap,v = .slice ad n cap∧n=ps.length:=by
  rcases h with ⟨e,e2⟩ | ⟨g,o,c,e,_⟩
  ·exact ⟨none,0,0,e,by rw [e2];rfl⟩
  ·exact ⟨_,_,_,e,rfl⟩
 obtain ⟨rfl,hnn⟩:=hv
 subst hnn
 have HS:Hid (∀ p ∈ ps,p.deb.size≤1000∧p.cre.size≤1000):=hs
 have HPA:Hid (PstsAt w (.slice ad ps.length cv) ps):=h
 clear h hs
 go_enter Tryz.func138,Tryz.ntmps138
 go_wp2
 obtain ⟨w0,hw0⟩:∃ W,W=w.alloc (.map #[] 0):=⟨_,rfl⟩
 have hm0:IMap w0 w.heap.size 0 (.map []) (fun x=>bal x 0 (ps.take 0)) (fun x=>x ∈ accs (ps.take 0)):=by
  rw [hw0];exact imap_ext (imap_new w) (fun x=>rfl) (fun x=>by simp [accs])
 have hb0:Below w.heap.size w w0:=by rw [hw0];exact (Below.refl _ _).alloc (Nat.le_refl _) _
 rw [← hw0]
 have HM0:=hidE hm0
 have HB0:=hidE hb0
 clear hm0 hb0 hw0
 go_loopw [12] (fun i wr=>∃ (k n:Nat) (D:DataW Value),k≤ps.length∧i = .int .i64 k∧n≤2 * k∧Hid (IMap wr w.heap.size n D (fun x=>bal x 0 (ps.take k)) (fun x=>x ∈ accs (ps.take k)))∧Hid (Below w.heap.size w wr)) (fun i _=>ps.length - (intOf i).toNat)
 case atStart=>exact ⟨0,0,_,Nat.zero_le _,rfl,Nat.le_refl _,HM0,HB0⟩
 case round=>
  obtain ⟨k,n,D,hk,rfl,hn,HM,HB⟩:=hrel
  by_cases hlt:k < ps.length
  ·rcases HPA.out.below HB.out with ⟨_,e2⟩ | ⟨g,o,cp,e1,hg,hc⟩
   ·rw [e2] at hlt;exact absurd hlt (Nat.not_lt_zero _)
   ·simp only [Value.slice.injEq] at e1
    obtain ⟨rfl,_,rfl⟩:=e1
    obtain ⟨x,hx⟩:∃ x,x=ps[k]:=⟨_,rfl⟩
    have q0:=hc k 0 hlt (by omega)
    have q1:=hc k 1 hlt (by omega)
    have q2:=hc k 2 hlt (by omega)
    have hxs:=HS.out ps[k] (List.getElem_mem hlt)
    have HBS:Hid (∀ z,bal z 0 (ps.take (k + 1))=bal1 z (bal z 0 (ps.take k)) ps[k]):=fun z=>bal_snoc z hlt
    have HAS:Hid (∀ z,z ∈ accs (ps.take (k + 1)) ↔ (z ∈ accs (ps.take k)∨z=ps[k].deb∨z=ps[k].cre)):=fun z=>accs_snoc hlt z
    rw [← hx] at q0 q1 q2 hxs HBS HAS
    clear hx hc
    obtain ⟨d,c,m⟩:=x
    simp only [pstC,List.getElem?_cons_zero,List.getElem?_cons_succ,Nat.add_zero] at q0 q1 q2 hxs HBS HAS
    obtain ⟨W1,hW1⟩:∃ W,W=wr.alloc (.cells #[.string d,.string c,.int .i64 m] 218):=⟨_,rfl⟩
    have hb1:Below wr.heap.size wr W1:=by rw [hW1];exact (Below.refl _ _).alloc (Nat.le_refl _) _
    have hM1:=HM.out.below hb1
    have l1:=hM1.look d (by unfold maxLen;omega)
    have c0:W1.cell? ⟨wr.heap.size,0,none⟩=some (.string d)∧W1.cell? ⟨wr.heap.size,1,none⟩=some (.string c)∧W1.cell? ⟨wr.heap.size,2,none⟩=some (.int .i64 m):=by rw [hW1];simp
    have HC0:=hidE c0
    have HM1:=hidE hM1
    have HB1:=hidE hb1
    have hs1:W1.heap.size=wr.heap.size + 1:=by rw [hW1];simp
    have HW1:Hid (W1=wr.alloc (.cells #[.string d,.string c,.int .i64 m] 218)):=hW1
    have hsw:=HB.out.size
    have hmw:w.heap.size < wr.heap.size:=HM.out.lt
    rw [hW1] at l1
    clear hW1 hb1 hM1 c0
    go_wp2_with (first
     | (at_mapUpdate;refine wpList_mapUpdate_own _ rfl _ _ _ 243 rfl 9 3 law_strT Tryz.underlying243 heldE w.heap.size n D rfl (by rw [← HW1.out];exact HM1.out.map) (by unfold maxLen;omega) _ _ (keyB d) rfl rfl (key_str d (by unfold maxLen;omega)) (.held (.int .i64 (wrap64 (bal d 0 (ps.take k) + m)))) [] rfl ?_)
     | go_in)
    intro w2 hm2 hg2
    rw [← HW1.out] at hg2
    have hM2:=HM1.out.put hm2
    have hbl:w2.heap[wr.heap.size]?=W1.heap[wr.heap.size]?:=hg2.block _ (by omega) (by intro e;injection e;omega)
    have d1:w2.cell? ⟨wr.heap.size,1,none⟩=some (.string c):=(World.cell?_of_block (a:=⟨wr.heap.size,1,none⟩) hbl).trans HC0.out.2.1
    have d2:w2.cell? ⟨wr.heap.size,2,none⟩=some (.int .i64 m):=(World.cell?_of_block (a:=⟨wr.heap.size,2,none⟩) hbl).trans HC0.out.2.2
    have l2:=hM2.look c (by unfold maxLen;omega)
    have hB2:Below w.heap.size w w2:=(HB.out.trans (HB1.out.mono hsw)).grown hg2 (by omega) (fun j e=>by cases e;exact Nat.le_refl _)
    have hs2:=hg2.size
    obtain ⟨b2,hb2⟩:∃ z:Int,z=(if c=d then wrap64 (bal d 0 (ps.take k) + m) else bal c 0 (ps.take k)):=⟨_,rfl⟩
    rw [← hb2] at l2
    have HB2E:=hidE hb2
    have HM2:=hidE hM2
    have HB2:=hidE hB2
    clear hm2 hg2 hM2 hbl hB2 l1 hb2 HM1 HC0
    go_wp2_with (first
     | (at_mapUpdate;refine wpList_mapUpdate_own _ rfl _ _ _ 243 rfl 9 3 law_strT Tryz.underlying243 heldE w.heap.size (n + 1) _ rfl HM2.out.map (by unfold maxLen;omega) _ _ (keyB c) rfl rfl (key_str c (by unfold maxLen;omega)) (.held (.int .i64 (wrap64 (b2 - m)))) [] rfl ?_)
     | go_in)
    intro w3 hm3 hg3
    have HM3:Hid (IMap w3 w.heap.size (n + 2) _ (fun x=>bal x 0 (ps.take (k + 1))) (fun x=>x ∈ accs (ps.take (k + 1)))):=imap_ext (HM2.out.put hm3) (fun z=>by
     rw [HBS.out z,HB2E.out]
     unfold bal1
     simp only
     by_cases e1:z=c
     ·subst e1
      by_cases e2:z=d
      ·subst e2;simp
      ·have e2':¬ d=z:=fun x=>e2 x.symm
       simp [e2,e2']
     ·have e1':¬ c=z:=fun x=>e1 x.symm
      by_cases e2:z=d
      ·subst e2;simp [e1,e1']
      ·have e2':¬ d=z:=fun x=>e2 x.symm
       simp [e1,e1',e2,e2']) (fun z=>by
     rw [HAS.out z]
     constructor
     ·rintro (h | h | h)
      ·exact Or.inr (Or.inr h)
      ·exact Or.inr (Or.inl h)
      ·exact Or.inl h
     ·rintro (h | h | h)
      ·exact Or.inr (Or.inr h)
      ·exact Or.inr (Or.inl h)
      ·exact Or.inl h)
    have HB3:Hid (Below w.heap.size w w3):=HB2.out.grown hg3 (by omega) (fun j e=>by cases e;exact Nat.le_refl _)
    clear hm3 hg3 l2 d1 d2
    go_wp2
    go_roundw
    case rel=>exact ⟨k + 1,n + 2,_,by omega,by go_num,by omega,HM3,HB3⟩
    case measure=>simp [intOf];omega
  ·have hkl:k=ps.length:=by omega
   subst hkl
   rw [List.take_length] at HM
   have hK:=callsIn_wide.1 (Tryz.maps_Keys (some w.heap.size) wr)
   have hsz:=HM.out.map.size_le
   have hSo:=callsIn_wide.1 (Tryz.sorted_keys w.heap.size n D heldE wr HM.out.map (by unfold maxLen;omega) (by omega))
   obtain ⟨f,hf⟩:∃ f:ByteArray→Int,f=fun x=>bal x 0 ps:=⟨_,rfl⟩
   rw [← hf] at HM
   have HF:Hid (f=fun x=>bal x 0 ps):=hf
   have HK:=hidE hK
   have HSo:=hidE hSo
   have hsw:=HB.out.size
   have hmw:w.heap.size < wr.heap.size:=HM.out.lt
   clear hK hSo hf
   go_wp2_with fail
   refine HK.out.mono ?_
   rintro e w1 ⟨rfl,rfl⟩
   go_wp2_with fail
   refine HSo.out.mono ?_
   rintro e w2 ⟨kv,ss,rfl,hS,hrow,_,hb2⟩
   obtain ⟨ks,hks,hms⟩:=keys_of HM.out hS
   rw [hms] at hrow
   have hsl:ss.length=ks.length:=by
    have h1:=congrArg List.length hms
    rw [List.length_mergeSort,List.length_map] at h1
    exact h1
   rw [hsl] at hrow
   have hrow2:w2.ownsRow (wr.heap.size + 1) 9 1 kv ks.length (ks.flatMap fun x=>[Value.string x]):=by
    have e:(ks.map fun x:ByteArray=>x.data.toList).map Go.Proofs.encStr=ks.flatMap fun x=>[Value.string x]:=enc_flat ks
    rw [e] at hrow
    simpa using hrow
   have hkl:ks.length≤20000:=by
    rw [← hsl,hS.length_eq]
    have:(strKeys D).length=Maps.size D:=by
     obtain ⟨es,rfl⟩:IsMap D:=(HM.out.map.canon law_strT).imp fun es ⟨e,_⟩=>e
     simp [strKeys,Maps.size]
    omega
   have hM2:=(HM.out.below ((Below.refl _ _).alloc (Nat.le_refl _) (.cells #[.map (some w.heap.size)] 243))).below hb2
   have hB2:Below w.heap.size w w2:=(HB.out.trans (((Below.refl _ _).alloc (Nat.le_refl _) (.cells #[.map (some w.heap.size)] 243)).mono hsw)).trans (hb2.mono (by simp;omega))
   have HM2:=hidE hM2
   have HB2:=hidE hB2
   have HKS:=hidE hks
   have hs2:=hb2.size
   have HR2:=hidE hrow2
   simp only [World.size_alloc] at hs2
   have hsz8:∀ x ∈ ks,x.size≤1000:=fun x hx=>by
    have:=(hks.mem x).1 hx
    unfold accs at this
    rw [List.mem_flatMap] at this
    obtain ⟨p,hp,hx⟩:=this
    simp only [List.mem_cons,List.not_mem_nil,or_false] at hx
    rcases hx with rfl | rfl
    ·exact (HS.out p hp).1
    ·exact (HS.out p hp).2
   have HSZ:=hidE hsz8
   clear hS hrow hb2 hms hsl hM2 hB2 hks HK HSo hsz8 hsz HM
   have hform:=own_form hrow2
   obtain ⟨adk,nk,cpk,hkv⟩:∃ ad n cap,kv = .slice ad n cap∧n=ks.length:=by
    rcases hform with ⟨e,e2,_⟩ | ⟨g,c,e,_⟩
    ·exact ⟨none,0,0,e,e2.symm⟩
    ·exact ⟨_,_,_,e,rfl⟩
   obtain ⟨rfl,hnk⟩:=hkv
   subst hnk
   clear hform hrow2
   go_wp2
   go_loopw [6,35] (fun u i wr=>∃ k:Nat,k≤ks.length∧i = .int .i64 k∧Hid (wr.ownsRow w2.heap.size 194 2 u (ks.take k).length ((ks.take k).flatMap (blcC f)))∧Hid (Below w2.heap.size w2 wr)) (fun _ i _=>ks.length - (intOf i).toNat)
   case atStart=>exact ⟨0,Nat.zero_le _,rfl,World.ownsRow_nil _ _ _ _,Below.refl _ _⟩
   case round=>
    obtain ⟨k,hk,rfl,HO,HBW⟩:=hrel
    have hsww:=HBW.out.size
    by_cases hlt:k < ks.length
    ·obtain ⟨ad3,n3,cp3,hv3⟩:=own_lenL HO.out
     subst hv3
     rcases own_form HR2.out with ⟨_,e2,_⟩ | ⟨g,cp,e1,_,hgl,_⟩
     ·rw [e2] at hlt;exact absurd hlt (Nat.not_lt_zero _)
     ·simp only [Value.slice.injEq] at e1
      obtain ⟨rfl,_,rfl⟩:=e1
      have q0:=(own_cell (m:=1) (fun _=>rfl) HR2.out k 0 hlt (by omega)).1
      obtain ⟨x,hx⟩:∃ x,x=ks[k]:=⟨_,rfl⟩
      rw [← hx] at q0
      have hxs:x.size≤1000:=by rw [hx];exact HSZ.out _ (List.getElem_mem hlt)
      simp only [List.getElem?_cons_zero,Nat.mul_one,Nat.add_zero] at q0
      have q1:wr.cell? ⟨g,k,none⟩=some (.string x):=(HBW.out.cell (p:=⟨g,k,none⟩) hgl).trans q0
      have lk:=(HM2.out.below HBW.out).look x (by unfold maxLen;omega)
      have HTK:Hid (ks.take (k + 1)=ks.take k ++ [x]):=by show _=_;rw [hx];exact List.take_succ_eq_append_getElem hlt
      have htl:(ks.take k).length=k:=by rw [List.length_take];omega
      have hown:=HO.out
      rw [htl] at hown
      clear hx q0
      go_wp2_with (first
       | (at_builtin;refine wpList_append_new _ rfl _ _ 191 rfl w2.heap.size 194 i0 blcZ 2 24 Tryz.underlying191 hi hz0 hz1 hz2 rfl (by decide) (.slice ad3 n3 cp3) _ _ rfl (hown.alloc _) ⟨wr.heap.size,0,none⟩ 1 1 (blcC f x) rfl rfl ?d1 ?d2 ?d3 ?d4 ?d5 (by omega) ?_)
       | go_in)
      case d1=>simpa [blcC] using cells_of_list (w:=wr) (cs:=blcC f x) (T:=194) rfl
      case d2=>exact blcC_one _ _
      case d3=>unfold maxLen;omega
      case d4=>omega
      case d5=>first | omega | (simp;omega)
      intro v' w5 hown5 hg5 _
      obtain ⟨ad5,nn5,cp5,hv5⟩:=own_lenL hown5
      subst hv5
      have HB5:Hid (Below w2.heap.size w2 w5):=by
       have b1:Below w2.heap.size w2 (wr.alloc (.cells #[.string x,.int .i64 (f x)] 194)):=HBW.out.alloc hsww _
       exact b1.grown hg5 b1.size (fun j hj=>(hown.lt j hj).1)
      have HO5:Hid (w5.ownsRow w2.heap.size 194 2 (.slice ad5 nn5 cp5) (ks.take (k + 1)).length ((ks.take (k + 1)).flatMap (blcC f))):=by
       show w5.ownsRow _ _ _ _ _ _
       rw [HTK.out,List.length_append,List.flatMap_append,htl]
       simpa using hown5
      clear hown5 hg5 hown q1 lk
      go_wp2
      go_roundw
      case rel=>exact ⟨k + 1,by omega,by go_num,HO5,HB5⟩
      case measure=>simp [intOf];omega
    ·have hk2:k=ks.length:=by omega
     subst hk2
     obtain ⟨ad3,n3,cp3,hv3⟩:=own_lenL HO.out
     subst hv3
     have HO5:Hid (wr.ownsRow w.heap.size 194 2 (.slice ad3 n3 cp3) ks.length (ks.flatMap (blcC fun x=>bal x 0 ps))):=by
      have h1:=HO.out
      rw [List.take_length,HF.out] at h1
      exact own_below h1 (Below.refl _ _) HB2.out.size
     have HB5:Hid (Below w.heap.size w wr):=HB2.out.trans (HBW.out.mono HB2.out.size)
     go_wp2
     go_ret
     exact ⟨_,ks,rfl,HKS.out,HO5.out,HB5.out⟩
end Go.Proofs.YtbleojodidbhiaaGreatDoor
