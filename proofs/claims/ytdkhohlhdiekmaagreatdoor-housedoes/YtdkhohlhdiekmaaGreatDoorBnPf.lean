/-  -/
import Derived.Test.YtdkhohlhdiekmaaGreatDoorBnA
namespace Go.Proofs.YtdkhohlhdiekmaaGreatDoor
open Go.RowKit
theorem below3a (w:World) (o o' o'':Obj):Below w.heap.size w (((w.alloc o).alloc o').alloc o''):=(((Below.refl _ _).alloc (Nat.le_refl _) o).alloc (by simp) o').alloc (by simp;omega) o''
set_option maxHeartbeats 2000000 in
theorem plus_any (a b:Fig) (w:World):Calls Tryz.prog 171 #[figV a,figV b] w fun r w'=>r = .returned (figV (a.plus b))∧Below w.heap.size w w':=by
 obtain ⟨a1,a2,a3,a4,a5⟩:=a
 obtain ⟨b1,b2,b3,b4,b5⟩:=b
 unfold figV Fig.plus
 simp only
 go_enter Tryz.func171,Tryz.ntmps171
 go_wp2
 refine bodyPost_ret (v:=.agg #[.int .i64 (wrap64 (a1 + b1)),.int .i64 (wrap64 (a2 + b2)),.int .i64 (wrap64 (a3 + b3)),.int .i64 (wrap64 (a4 + b4)),.int .i64 (wrap64 (a5 + b5))]) (by simp [results,Tryz.results171,go_sem]) rfl ⟨rfl,?_⟩
 exact below3a _ _ _ _
set_option maxHeartbeats 2000000 in
theorem minus_any (a b:Fig) (w:World):Calls Tryz.prog 128 #[figV a,figV b] w fun r w'=>r = .returned (figV (a.minus b))∧Below w.heap.size w w':=by
 obtain ⟨a1,a2,a3,a4,a5⟩:=a
 obtain ⟨b1,b2,b3,b4,b5⟩:=b
 unfold figV Fig.minus
 simp only
 go_enter Tryz.func128,Tryz.ntmps128
 go_wp2
 refine bodyPost_ret (v:=.agg #[.int .i64 (wrap64 (a1 - b1)),.int .i64 (wrap64 (a2 - b2)),.int .i64 (wrap64 (a3 - b3)),.int .i64 (wrap64 (a4 - b4)),.int .i64 (wrap64 (a5 - b5))]) (by simp [results,Tryz.results128,go_sem]) rfl ⟨rfl,below3a _ _ _ _⟩
def lineV (y:Lin):Value:=.agg #[.int .i64 y.id,.int .i64 y.val,.int .i64 y.short,.int .i64 y.late,.bool y.gain]
set_option maxHeartbeats 2000000 in
theorem figures_any (k:Int) (y:Lin) (w:World):Calls Tryz.prog 203 #[.int .i64 k,lineV y] w fun r w'=>r = .returned (figV (figOf k y))∧Below w.heap.size w w':=by
 obtain ⟨y1,y2,y3,y4,y5⟩:=y
 unfold figV figOf lineV
 simp only
 by_cases h1:k=1
 ·subst h1
  rw [if_pos (Or.inl rfl)]
  go_enter Tryz.func203,Tryz.ntmps203
  go_wp2
  refine bodyPost_ret (v:=.agg #[.int .i64 y2,.int .i64 0,.int .i64 0,.int .i64 0,.int .i64 y4]) (by simp [results,Tryz.results203,go_sem]) rfl ⟨rfl,?_⟩
  exact below3a _ _ _ _
 ·by_cases h2:k=2
  ·subst h2
   rw [if_pos (Or.inr rfl)]
   go_enter Tryz.func203,Tryz.ntmps203
   go_wp2
   refine bodyPost_ret (v:=.agg #[.int .i64 y2,.int .i64 0,.int .i64 0,.int .i64 0,.int .i64 y4]) (by simp [results,Tryz.results203,go_sem]) rfl ⟨rfl,?_⟩
   exact below3a _ _ _ _
  ·rw [if_neg (by omega)]
   by_cases h3:k=3
   ·subst h3
    rw [if_pos rfl]
    go_enter Tryz.func203,Tryz.ntmps203
    go_wp2
    refine bodyPost_ret (v:=.agg #[.int .i64 0,.int .i64 y2,.int .i64 0,.int .i64 0,.int .i64 y4]) (by simp [results,Tryz.results203,go_sem]) rfl ⟨rfl,?_⟩
    exact below3a _ _ _ _
   ·rw [if_neg h3]
    have e1:(k == 1)=false:=by simpa using h1
    have e2:(k == 2)=false:=by simpa using h2
    have e3:(k == 3)=false:=by simpa using h3
    cases y5 with
    | true=>
     rw [if_pos rfl]
     go_enter Tryz.func203,Tryz.ntmps203
     go_wp2
     refine bodyPost_ret (v:=.agg #[.int .i64 0,.int .i64 0,.int .i64 0,.int .i64 y2,.int .i64 y4]) (by simp [results,Tryz.results203,go_sem]) rfl ⟨rfl,?_⟩
     exact below3a _ _ _ _
    | false=>
     rw [if_neg (by simp)]
     go_enter Tryz.func203,Tryz.ntmps203
     go_wp2
     refine bodyPost_ret (v:=.agg #[.int .i64 0,.int .i64 0,.int .i64 y2,.int .i64 0,.int .i64 y4]) (by simp [results,Tryz.results203,go_sem]) rfl ⟨rfl,?_⟩
     exact below3a _ _ _ _
end Go.Proofs.YtdkhohlhdiekmaaGreatDoor
