/-  -/
import Derived.Test.YtbleojodidbhiaaGreatDoorBnC
import Derived.Shelf.SlSortCmp.InsertionK
import Derived.Test.YtbleojodidbhiaaGreatDoorBnD
namespace Go.Proofs.YtbleojodidbhiaaGreatDoor
open Go.RowKit
theorem grow_three (w:World) (a b c:Obj):((w.alloc a).alloc b).drew.alloc c=Sort.grow (w.drewN 1) #[a,b,c]:=by
 show ({ w with heap:=((w.heap.push a).push b).push c,drawn:=w.drawn + 1 }:World)={ w with heap:=w.heap ++ #[a,b,c],drawn:=w.drawn + 1 }
 have e:((w.heap.push a).push b).push c=w.heap ++ #[a,b,c]:=by apply Array.ext';simp
 rw [e]
set_option maxHeartbeats 4000000 in
theorem compare_grow (a b:Ev) (w:World) :
  Calls Tryz.prog 49 #[evV a,evV b] w fun e w'=>e = .returned (.int .i64 (cmpE a b))∧∃ q os,w'=Sort.grow (w.drewN q) os:=by
 obtain ⟨id,item,kind,qty,price,ofI,day⟩:=a
 obtain ⟨id2,item2,kind2,qty2,price2,ofI2,day2⟩:=b
 have HC:Hid (cmpE ⟨id,item,kind,qty,price,ofI,day⟩ ⟨id2,item2,kind2,qty2,price2,ofI2,day2⟩=orI (cmpI day day2) (cmpI kind kind2) (cmpI id id2)):=rfl
 rw [HC.out]
 clear HC
 unfold evV
 simp only
 have hU:=up_ne
 go_enter Tryz.func49,Tryz.ntmps49
 go_wp2_with fail
 refine wp_region_mix [(true,0),(true,1),(true,2),(true,3),(true,5),(true,6),(true,7),(true,8),(true,10),(true,11),(true,12),(true,13),(false,4),(false,9),(false,14),(false,15),(false,16),(true,17)] (by kernel_rfl) (by kernel_rfl) ?_
 obtain ⟨W0,hW⟩:∃ W,W=((w.alloc (.cells #[.int .i64 id,.string item,.int .i64 kind,.int .i64 qty,.int .i64 price,.int .i64 ofI,.int .i64 day] 93)).alloc (.cells #[.int .i64 id2,.string item2,.int .i64 kind2,.int .i64 qty2,.int .i64 price2,.int .i64 ofI2,.int .i64 day2] 93)).drew:=⟨_,rfl⟩
 rw [← hW]
 have hE:EvAt W0 w.heap.size ⟨id,item,kind,qty,price,ofI,day⟩:=by
  rw [hW];constructor <;> simp
 have hF:EvAt W0 (w.heap.size + 1) ⟨id2,item2,kind2,qty2,price2,ofI2,day2⟩:=by
  rw [hW];constructor <;> simp
 have hB0:Below w.heap.size w W0:=by rw [hW];exact (((Below.refl _ _).alloc (Nat.le_refl _) _).alloc (by simp) _).trans ((below_drew _).mono (by simp;omega))
 have HW:Hid (W0=_):=hW
 clear hW
 have f0:=fun n:Up W0=>(hE.up n).c0
 have f2:=fun n:Up W0=>(hE.up n).c2
 have f6:=fun n:Up W0=>(hE.up n).c6
 have g0:=fun n:Up W0=>(hF.up n).c0
 have g2:=fun n:Up W0=>(hF.up n).c2
 have g6:=fun n:Up W0=>(hF.up n).c6
 repeat (refine mix_q rfl ?_;go_big_quiet_step (fail);refine wpQuiet_nil ?_)
 refine mix_n rfl ?_
 go_wp2_with fail
 refine (cmp_any day day2 _).mono ?_
 rintro e w' ⟨rfl,hw⟩
 subst w'
 go_wp2_with fail
 refine ⟨rfl,Below.refl _ _,?_⟩
 refine mix_n rfl ?_
 go_wp2_with fail
 refine (cmp_any kind kind2 _).mono ?_
 rintro e w' ⟨rfl,hw⟩
 subst w'
 go_wp2_with fail
 refine ⟨rfl,Below.refl _ _,?_⟩
 refine mix_n rfl ?_
 go_wp2_with fail
 refine (cmp_any id id2 _).mono ?_
 rintro e w' ⟨rfl,hw⟩
 subst w'
 go_wp2_with fail
 refine ⟨rfl,Below.refl _ _,?_⟩
 refine mix_n rfl ?_
 go_wp2_with fail
 refine ⟨rfl,(Below.refl _ _).alloc (Nat.le_refl _) _,?_⟩
 refine mix_n rfl ?_
 go_wp2_with fail
 refine (or_any (cmpI day day2) (cmpI kind kind2) (cmpI id id2) W0.heap.size _ (by simp) (by simp) (by simp)).mono ?_
 rintro e w' ⟨rfl,hw⟩
 subst w'
 go_wp2_with fail
 refine ⟨rfl,Below.refl _ _,?_⟩
 repeat (refine mix_q rfl ?_;go_big_quiet_step (fail);refine wpQuiet_nil ?_)
 refine mix_nil ?_
 go_wp2
 go_ret
 rw [HW.out]
 exact ⟨rfl,1,_,grow_three w _ _ _⟩
def evZ:Value:=.agg #[.int .i64 0,.string ⟨#[]⟩,.int .i64 0,.int .i64 0,.int .i64 0,.int .i64 0,.int .i64 0]
theorem Tryz.infoEv:(Tryz.prog.info? 93).map (fun i=>(i.zero,i.size,i.bytes))=some (some evZ,7,64):=by kernel_rfl
end Go.Proofs.YtbleojodidbhiaaGreatDoor
