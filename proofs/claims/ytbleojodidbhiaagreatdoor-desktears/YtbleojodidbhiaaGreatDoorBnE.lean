/-  -/
import Derived.Test.YtbleojodidbhiaaGreatDoorBnA
import Derived.Test.YtbleojodidbhiaaGreatDoorBnD
namespace Go.Proofs.YtbleojodidbhiaaGreatDoor
def shr (t s w:Int):Int:=t * s / w
theorem shr_split (t s w:Int) (hw:0 < w):t / w * s + t % w * s / w=shr t s w:=by
 unfold shr
 have e:t * s=t % w * s + w * (t / w * s):=by
  have h:=Int.mul_ediv_add_emod t w
  calc t * s=(w * (t / w) + t % w) * s:=by rw [h]
   _=t % w * s + w * (t / w * s):=by rw [Int.add_mul,Int.mul_assoc,Int.add_comm]
 rw [e,Int.add_mul_ediv_left _ _ (by omega),Int.add_comm]
theorem shr_nonneg (t s w:Int) (ht:0≤t) (hs:0≤s) (hw:0 < w):0≤shr t s w:=
 Int.ediv_nonneg (Int.mul_nonneg ht hs) (Int.le_of_lt hw)
theorem shr_mono (t a b w:Int) (ht:0≤t) (hab:a≤b) (hw:0 < w):shr t a w≤shr t b w:=
 Int.ediv_le_ediv hw (Int.mul_le_mul_of_nonneg_left hab ht)
theorem shr_all (t w:Int) (hw:0 < w):shr t w w=t:=Int.mul_ediv_cancel _ (by omega)
theorem shr_none (t w:Int):shr t 0 w=0:=by simp [shr]
theorem shr_le (t s w:Int) (ht:0≤t) (hs:s≤w) (hw:0 < w):shr t s w≤t:=by
 have:=shr_mono t s w w ht hs hw;rwa [shr_all t w hw] at this
theorem quo_bd (t s w:Int) (ht:0≤t) (hs:0≤s) (hsw:s≤w) (hw:0 < w):0≤t / w * s∧t / w * s≤t:=by
 have h0:0≤t / w:=Int.ediv_nonneg ht (by omega)
 refine ⟨Int.mul_nonneg h0 hs,Int.le_trans (Int.mul_le_mul_of_nonneg_left hsw h0) ?_⟩
 exact Int.ediv_mul_le t (by omega)
theorem rem_bd (t s w B:Int) (hs:0≤s) (hsw:s≤w) (hw:0 < w) (hB:w≤B):0≤t % w * s∧t % w * s≤B * B∧0≤t % w * s / w∧t % w * s / w≤B:=by
 have h0:0≤t % w:=Int.emod_nonneg t (by omega)
 have h1:t % w < w:=Int.emod_lt_of_pos t hw
 have a0:0≤t % w * s:=Int.mul_nonneg h0 hs
 have a1:t % w * s≤w * w:=Int.mul_le_mul (by omega) hsw hs (by omega)
 have a2:w * w≤B * B:=Int.mul_le_mul hB hB (by omega) (by omega)
 refine ⟨a0,by omega,Int.ediv_nonneg a0 (by omega),?_⟩
 have:t % w * s / w≤w * w / w:=Int.ediv_le_ediv hw a1
 rw [Int.mul_ediv_cancel _ (by omega)] at this
 omega
end Go.Proofs.YtbleojodidbhiaaGreatDoor
namespace Go.Proofs.YtbleojodidbhiaaGreatDoor
open Go.RowKit
set_option maxHeartbeats 1000000 in
theorem share_any (t s v:Int) (w:World) (ht:0≤t) (ht':t≤20000000000000) (hs:0≤s) (hsv:s≤v) (hv:1≤v) (hv':v≤100000000) :
  Calls Tryz.prog 290 #[.int .i64 t,.int .i64 s,.int .i64 v] w fun e w'=>e = .returned (.int .i64 (shr t s v))∧∃ n,w'=w.drewN n:=by
 have hq:=quo_bd t s v ht hs hsv (by omega)
 have hr:=rem_bd t s v 100000000 hs hsv (by omega) hv'
 have hm0:0≤t % v:=Int.emod_nonneg t (by omega)
 have hm1:t % v < v:=Int.emod_lt_of_pos t (by omega)
 have HS:Hid (t / v * s + t % v * s / v=shr t s v):=shr_split t s v (by omega)
 go_enter Tryz.func290,Tryz.ntmps290
 go_wp2
 go_quiet (fail)
 go_wp2
 go_ret
 exact ⟨ret_int HS.out,_,rfl⟩
set_option maxHeartbeats 1000000 in
theorem part_ok (t s v:Int) (w:World) (ht:0≤t) (ht':t≤20000000000000) (hs:0≤s) (hsv:s≤v) (hv:1≤v) (hv':v≤100000) :
  Calls Tryz.prog 284 #[.int .i64 t,.int .i64 s,.int .i64 v] w fun e w'=>e = .returned (.tuple #[.int .i64 (shr t s v),.nilIface])∧∃ n,w'=w.drewN n:=by
 go_enter Tryz.func284,Tryz.ntmps284
 go_wp2_with (go_at_call 290;refine (share_any _ _ _ _ ht ht' hs hsv hv (by omega)).mono ?_;rintro e w' ⟨rfl,n,rfl⟩)
 go_ret2
 exact ⟨rfl,_,rfl⟩
set_option maxHeartbeats 1000000 in
theorem worth_any (y:Lay) (n:Int) (w:World) (h:LayOK y) (hv:y.val≤4000000000000000000) (h0:0≤n) (h1:n≤y.qty) :
  Calls Tryz.prog 266 #[.agg #[.int .i64 y.id,.int .i64 y.qty,.int .i64 y.val],.int .i64 n] w fun e w'=>e = .returned (.int .i64 (y.val * n / y.qty))∧Below w.heap.size w w':=by
 obtain ⟨id,qty,val⟩:=y
 obtain ⟨q1,q2,v0⟩:=h
 simp only at hv h1 q1 q2 v0 ⊢
 have hm0:0≤val % qty:=Int.emod_nonneg val (by omega)
 have hm1:val % qty < qty:=Int.emod_lt_of_pos val (by omega)
 have HS:Hid (val / qty * n + val % qty * n / qty=val * n / qty):=part_split (by omega)
 have hp:=part_le v0 h0 (by omega:0 < qty) h1
 have hr:=part_le hm0 h0 (by omega:0 < qty) h1
 have hq0:0≤val / qty:=Int.ediv_nonneg v0 (by omega)
 have hqn:0≤val / qty * n:=Int.mul_nonneg hq0 h0
 have hqs:val / qty * n≤4000000000000000000:=by have:=HS.out;omega
 have hall:val / qty * n + val % qty * n / qty≤4000000000000000000:=by rw [HS.out];omega
 have hc:=fun W=>part_ok (val % qty) n qty W hm0 (by omega) h0 h1 q1 q2
 unfold shr at hc
 generalize hR:val % qty * n / qty=R at hc hr HS hall
 clear hR
 generalize hM:val % qty=M at hc hm0 hm1
 have HM:Hid (val % qty=M):=hM
 obtain ⟨W0,hW0⟩:∃ W,W=w.alloc (.cells #[.int .i64 id,.int .i64 qty,.int .i64 val] 294):=⟨_,rfl⟩
 have hB0:Below w.heap.size w W0:=by rw [hW0];exact (Below.refl _ _).alloc (Nat.le_refl _) _
 have c1:∀ k,(W0.drewN k).cell? ⟨w.heap.size,1,none⟩=some (.int .i64 qty):=fun k=>by rw [hW0];simp
 have c2:∀ k,(W0.drewN k).cell? ⟨w.heap.size,2,none⟩=some (.int .i64 val):=fun k=>by rw [hW0];simp
 have qne:¬ qty=0:=by omega
 go_enter Tryz.func266,Tryz.ntmps266
 go_wp2_with fail
 rw [← hW0]
 clear hW0
 go_quiet (first | (go_at_call 284;refine Calls.quiet_of (hc _)))
 go_wp2
 go_ret
 exact ⟨ret_int HS.out,hB0.trans ⟨rfl,rfl,rfl,Nat.le_refl _,fun _ _=>rfl⟩⟩
theorem sum_take {ys:List Lay} (h:∀ y ∈ ys,LayOK y) (k:Nat):0≤sumQ (ys.take k)∧sumQ (ys.take k)≤sumQ ys∧0≤sumV (ys.take k)∧sumV (ys.take k)≤sumV ys:=by
 have h1:=sum_nonneg (ys:=ys.take k) fun y hy=>h y (List.mem_of_mem_take hy)
 have h2:=sum_nonneg (ys:=ys.drop k) fun y hy=>h y (List.mem_of_mem_drop hy)
 have h3:=sumQ_append (ys.take k) (ys.drop k)
 have h4:=sumV_append (ys.take k) (ys.drop k)
 rw [List.take_append_drop] at h3 h4
 omega
theorem sum_snoc (ys:List Lay) (k:Nat) (hk:k < ys.length):sumQ (ys.take (k + 1))=sumQ (ys.take k) + ys[k].qty∧sumV (ys.take (k + 1))=sumV (ys.take k) + ys[k].val:=by
 rw [List.take_succ_eq_append_getElem hk,sumQ_append,sumV_append]
 simp only [sumQ,sumV]
 omega
set_option maxHeartbeats 1000000 in
theorem sum_any (ys:List Lay) (v:Value) (w:World) (h:LayAt w v ys) (hok:∀ y ∈ ys,LayOK y) (hq:sumQ ys≤1000000000) (hv:sumV ys≤4000000000000000000) (hl:ys.length≤1000000) :
  Calls Tryz.prog 217 #[v] w fun e w'=>e = .returned (.tuple #[.int .i64 (sumQ ys),.int .i64 (sumV ys)])∧Below w.heap.size w w':=by
 rcases h.form with ⟨rfl,rfl⟩ | ⟨g,o,cap,rfl,hg,hc1,hc2⟩
 ·go_enter Tryz.func217,Tryz.ntmps217
  go_wp2
  refine wp_loop_rounds 1 ?_
  rw [rounds_succ]
  go_wp2
  go_ret2
  exact ⟨rfl,Below.refl _ _⟩
 ·go_enter Tryz.func217,Tryz.ntmps217
  go_wp2
  go_loopw [2,3,8] (fun q s i wr=>∃ k:Nat,k≤ys.length∧i = .int .i64 k∧q = .int .i64 (sumQ (ys.take k))∧s = .int .i64 (sumV (ys.take k))∧Below w.heap.size w wr) (fun _ _ i _=>ys.length - (intOf i).toNat)
  case atStart=>exact ⟨0,Nat.zero_le _,rfl,rfl,rfl,Below.refl _ _⟩
  case round=>
   obtain ⟨k,hk,rfl,rfl,rfl,hb⟩:=hrel
   by_cases hlt:k < ys.length
   ·have hc:=fun j hj=>((h.below hb).cell k j hlt hj).1
    have c0:=hc 0 (by omega)
    have c1:=hc 1 (by omega)
    have c2:=hc 2 (by omega)
    have st:=sum_take hok k
    have st1:=sum_take hok (k + 1)
    have sn:=sum_snoc ys k hlt
    have SN:Hid (sumQ (ys.take (k + 1))=sumQ (ys.take k) + ys[k].qty∧sumV (ys.take (k + 1))=sumV (ys.take k) + ys[k].val):=sn
    have ok:=hok ys[k] (List.getElem_mem hlt)
    rw [sn.1,sn.2] at st1
    clear sn hc
    generalize ys[k]=y at c0 c1 c2 st1 SN ok
    obtain ⟨id,qty,val⟩:=y
    unfold LayOK at ok
    simp only [layC,List.getElem?_cons_zero,List.getElem?_cons_succ,Nat.add_zero] at c0 c1 c2 st1 SN ok
    have HB:=hb
    go_wp2
    go_roundw
    case rel=>exact ⟨k + 1,by omega,by go_num,by rw [SN.out.1],by rw [SN.out.2],hb.alloc hb.size _⟩
    case measure=>simp [intOf];omega
   ·obtain rfl:k=ys.length:=by omega
    have e:ys.take ys.length=ys:=List.take_length
    go_wp2
    go_ret2
    exact ⟨by rw [e];rfl,hb⟩
structure StkAt (w:World) (pb:Nat) (sv:Value) (s:Stk):Prop where
 c0:w.cell? ⟨pb,0,none⟩=some sv
 c1:w.cell? ⟨pb,1,none⟩=some (.int .i64 s.price)
 f0:w.frozen? ⟨pb,0,none⟩=false
 f1:w.frozen? ⟨pb,1,none⟩=false
 lay:LayAt w sv s.ys
 ne:sv.ownBlock ≠ some pb
theorem StkAt.lt {w:World} {pb:Nat} {sv:Value} {s:Stk} (h:StkAt w pb sv s):pb < w.heap.size:=World.block_lt_of_cell? _ _ h.c0
theorem StkAt.below {w w':World} {pb:Nat} {sv:Value} {s:Stk} (h:StkAt w pb sv s) (hb:Below w.heap.size w w'):StkAt w' pb sv s:=
 ⟨below_cell hb h.c0,below_cell hb h.c1,(hb.frozen (p:=⟨pb,0,none⟩) h.lt).trans h.f0,(hb.frozen (p:=⟨pb,1,none⟩) h.lt).trans h.f1,h.lay.below hb,h.ne⟩
theorem LayAt.setBox {w:World} {sv:Value} {pb o:Nat} {u:Value} {ys:List Lay} (h:LayAt w sv ys) (ne:sv.ownBlock ≠ some pb):LayAt (w.setCell ⟨pb,o,none⟩ u) sv ys:=
 h.kept fun k hk=>Below.heap_setCell _ _ _ _ (fun e=>ne (by rw [hk,e]))
theorem StkAt.put0 {w:World} {pb:Nat} {sv sv':Value} {s:Stk} {ys:List Lay} (c0:w.cell? ⟨pb,0,none⟩=some sv) (c1:w.cell? ⟨pb,1,none⟩=some (.int .i64 s.price)) (f0:w.frozen? ⟨pb,0,none⟩=false) (f1:w.frozen? ⟨pb,1,none⟩=false) (l:LayAt w sv' ys) (ne:sv'.ownBlock ≠ some pb) :
  StkAt (w.setCell ⟨pb,0,none⟩ sv') pb sv' ⟨ys,s.price⟩:=
 ⟨set_same c0,(set_other (by simp)).trans c1,set_frz.trans f0,set_frz.trans f1,l.setBox ne,ne⟩
theorem StkAt.put1 {w:World} {pb:Nat} {sv:Value} {s:Stk} (h:StkAt w pb sv s) (p:Int):StkAt (w.setCell ⟨pb,1,none⟩ (.int .i64 p)) pb sv ⟨s.ys,p⟩:=
 ⟨(set_other (by simp)).trans h.c0,set_same h.c1,set_frz.trans h.f0,set_frz.trans h.f1,h.lay.setBox h.ne,h.ne⟩
def layZ:Value:=.agg #[.int .i64 0,.int .i64 0,.int .i64 0]
theorem Tryz.infoLay:(Tryz.prog.info? 294).map (fun i=>(i.zero,i.size,i.bytes))=some (some layZ,3,24):=by kernel_rfl
theorem StkAt.grown {w w':World} {pb:Nat} {sv sv':Value} {s:Stk} {ys:List Lay} (h:StkAt w pb sv s) (hg:w.grownBy w' sv.ownBlock) (l:LayAt w' sv' ys) (hf:Fresh w sv sv') :
  StkAt (w'.setCell ⟨pb,0,none⟩ sv') pb sv' ⟨ys,s.price⟩∧w'.cell? ⟨pb,0,none⟩=some sv∧w'.frozen? ⟨pb,0,none⟩=false:=by
 have e2:w'.heap[pb]?=w.heap[pb]?:=hg.block pb h.lt (fun e=>h.ne e.symm)
 have k0:w'.cell? ⟨pb,0,none⟩=some sv:=(World.cell?_of_block (a:=⟨pb,0,none⟩) e2).trans h.c0
 have k1:w'.cell? ⟨pb,1,none⟩=some (.int .i64 s.price):=(World.cell?_of_block (a:=⟨pb,1,none⟩) e2).trans h.c1
 have z0:w'.frozen? ⟨pb,0,none⟩=false:=(World.frozen?_of_block (a:=⟨pb,0,none⟩) e2).trans h.f0
 have z1:w'.frozen? ⟨pb,1,none⟩=false:=(World.frozen?_of_block (a:=⟨pb,1,none⟩) e2).trans h.f1
 have ne':sv'.ownBlock ≠ some pb:=fun e=>by
  rcases hf pb e with x | x
  ·exact h.ne x
  ·have:=h.lt;omega
 exact ⟨StkAt.put0 k0 k1 z0 z1 l ne',k0,z0⟩
set_option maxHeartbeats 1000000 in
theorem put_does {pb:Nat} {sv:Value} {s:Stk} {w:World} (h:StkAt w pb sv s) (hl:s.ys.length≤1000000) (id q:Int) (hq:0≤q) (hq':q≤100000) (hp:0≤s.price∧s.price≤1000000) :
  Calls Tryz.prog 242 #[.pointer (some ⟨pb,0,none⟩),.int .i64 id,.int .i64 q] w fun r w'=>r = .returned (.int .i64 (q * s.price))∧∃ sv',StkAt w' pb sv' ⟨s.ys ++ [⟨id,q,q * s.price⟩],s.price⟩∧Turned w w' pb sv∧Fresh w sv sv':=by
 obtain ⟨i0,hi,hz0,hz1,hz2⟩:=info_parts Tryz.infoLay
 have c0:=h.c0
 have c1:=h.c1
 have m:=mul_bound hq hq' hp.1 hp.2
 have HH:Hid (StkAt w pb sv s):=h
 clear h
 go_enter Tryz.func242,Tryz.ntmps242
 go_wp2_with (first
  | (at_builtin;refine wpList_append_lay _ rfl _ _ 229 rfl i0 layZ Tryz.underlying229 hi hz0 hz1 hz2 rfl sv s.ys rfl (HH.out.lay.below ((Below.refl _ _).alloc (Nat.le_refl _) _)) hl ⟨w.heap.size,0,none⟩ 1 ⟨id,q,q * s.price⟩ rfl (cells_of_list rfl) ?_)
  | go_in)
 intro v' w2 l2 hgr hfr
 obtain ⟨ad',nn,cap',hv'⟩:=l2.slice
 subst hv'
 have hB1:Below w.heap.size w (w.alloc (.cells (layC ⟨id,q,q * s.price⟩).toArray 294)):=(Below.refl _ _).alloc (Nat.le_refl _) _
 have H1:=HH.out.below hB1
 obtain ⟨k1,k0,z0⟩:=H1.grown hgr l2 hfr
 have K1:Hid (StkAt (w2.setCell ⟨pb,0,none⟩ (.slice ad' nn cap')) pb (.slice ad' nn cap') ⟨s.ys ++ [⟨id,q,q * s.price⟩],s.price⟩):=k1
 have HT:Hid (Turned w w2 pb sv):=(Turned.of_below hB1).trans (grown_turned hgr) (Fresh.refl _ _)
 have HF:Hid (Fresh w sv (.slice ad' nn cap')):=hfr.grow hB1.size
 clear k1 hgr hfr l2 H1 hB1 c0 c1
 go_wp2
 go_ret
 exact ⟨rfl,_,K1.out,HT.out.trans (turned_set _ _ _ sv _) (Fresh.refl _ _),HF.out⟩
end Go.Proofs.YtbleojodidbhiaaGreatDoor
