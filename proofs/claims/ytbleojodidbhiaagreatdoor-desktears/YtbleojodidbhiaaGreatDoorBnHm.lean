/-  -/
import Derived.Test.YtbleojodidbhiaaGreatDoorHsM
import Derived.Test.YtbleojodidbhiaaGreatDoorBnJr
import Derived.Test.YtbleojodidbhiaaGreatDoorBnEv
import Derived.Test.YtbleojodidbhiaaGreatDoorBnP
import Derived.Test.YtbleojodidbhiaaGreatDoorBnGlob
import Derived.Test.YtbleojodidbhiaaGreatDoorBnShelf
namespace Go.Proofs.YtbleojodidbhiaaGreatDoor
open Go.RowKit
structure HsAt (w:World) (B ph:Nat) (sv cv:Value) (h:Hs):Prop where
 bk:BookAt w B ph sv h.bk
 pr:PerAt w B ph cv h.cs
 ap:∀ g,cv.ownBlock=some g→sv.ownBlock ≠ some g
 cj:w.cell? ⟨ph,4,none⟩=some (.string (ba (framesL 0 h.ls)))
 fj:w.frozen? ⟨ph,4,none⟩=false
 cn:w.cell? ⟨ph,5,none⟩=some (.int .i64 (h.ls.length:Nat))
 fn:w.frozen? ⟨ph,5,none⟩=false
def Mine (ph:Nat) (sv cv:Value) (k:Nat):Prop:=k=ph∨sv.ownBlock=some k∨cv.ownBlock=some k
structure HTurn (w w':World) (ph:Nat) (sv cv sv' cv':Value):Prop where
 os:w'.os=w.os
 tape:w'.tape=w.tape
 output:w'.output=w.output
 size:w.heap.size≤w'.heap.size
 block:∀ k,k < w.heap.size→¬ Mine ph sv cv k→w'.heap[k]?=w.heap[k]?
 fresh:∀ k,Mine ph sv' cv' k→Mine ph sv cv k∨w.heap.size≤k
section
variable {w w' w'' w0:World} {B ph:Nat} {sv cv sv' cv' sv'' cv'':Value} {h:Hs}
theorem HsAt.lt (a:HsAt w B ph sv cv h):ph < w.heap.size:=a.bk.lt
theorem HsAt.mine (a:HsAt w B ph sv cv h) {k:Nat} (hk:Mine ph sv cv k):B≤k∧k < w.heap.size:=by
 rcases hk with rfl | hk | hk
 ·exact ⟨a.bk.ge,a.lt⟩
 ·exact a.bk.block k hk
 ·exact a.pr.own.lt k hk
theorem HsAt.same (a:HsAt w B ph sv cv h) (e:∀ k,Mine ph sv cv k→w'.heap[k]?=w.heap[k]?):HsAt w' B ph sv cv h:=by
 have ep:=e ph (Or.inl rfl)
 have c (o:Nat):w'.cell? ⟨ph,o,none⟩=w.cell? ⟨ph,o,none⟩:=World.cell?_of_block (a:=⟨ph,o,none⟩) ep
 have f (o:Nat):w'.frozen? ⟨ph,o,none⟩=w.frozen? ⟨ph,o,none⟩:=World.frozen?_of_block (a:=⟨ph,o,none⟩) ep
 exact ⟨⟨(c 0).trans a.bk.c0,(c 1).trans a.bk.c1,(c 2).trans a.bk.c2,(f 0).trans a.bk.f0,(f 1).trans a.bk.f1,(f 2).trans a.bk.f2,row_same a.bk.own fun k hk=>e k (Or.inr (Or.inl hk)),a.bk.ne,a.bk.ge⟩,
  ⟨(c 3).trans a.pr.c0,(f 3).trans a.pr.f0,row_same a.pr.own fun k hk=>e k (Or.inr (Or.inr hk)),a.pr.ne,a.pr.ge⟩,a.ap,(c 4).trans a.cj,(f 4).trans a.fj,(c 5).trans a.cn,(f 5).trans a.fn⟩
theorem HsAt.below (a:HsAt w B ph sv cv h) (hb:Below w.heap.size w w'):HsAt w' B ph sv cv h:=a.same fun k hk=>hb.block k (a.mine hk).2
theorem HTurn.of_below (hb:Below w.heap.size w w'):HTurn w w' ph sv cv sv cv:=⟨hb.os,hb.tape,hb.output,hb.size,fun k hk _=>hb.block k hk,fun _ hk=>Or.inl hk⟩
theorem HTurn.trans (t:HTurn w w' ph sv cv sv' cv') (t':HTurn w' w'' ph sv' cv' sv'' cv''):HTurn w w'' ph sv cv sv'' cv'':=
 ⟨t'.os.trans t.os,t'.tape.trans t.tape,t'.output.trans t.output,Nat.le_trans t.size t'.size,
  fun k hk hn=>(t'.block k (Nat.lt_of_lt_of_le hk t.size) (fun hm=>by
   rcases t.fresh k hm with x | x
   ·exact hn x
   ·omega)).trans (t.block k hk hn),
  fun k hk=>by
   rcases t'.fresh k hk with x | x
   ·exact t.fresh k x
   ·exact Or.inr (Nat.le_trans t.size x)⟩
theorem HTurn.below (t:HTurn w w' ph sv cv sv' cv') (a:HsAt w B ph sv cv h) (hb:Below B w0 w) (hB:B≤w.heap.size):Below B w0 w':=
 hb.trans ⟨t.os,t.tape,t.output,t.size,fun k hk=>t.block k (by omega) (fun hm=>by have:=(a.mine hm).1;omega)⟩
theorem HsAt.book {b':Bk} (a:HsAt w B ph sv cv h) (H:BookAt w' B ph sv' b') (T:TurnI 0 3 w w' ph sv) (F:Fresh w sv sv'):HsAt w' B ph sv' cv ⟨b',h.cs,h.ls⟩∧HTurn w w' ph sv cv sv' cv:=by
 have r:=fun o ho=>T.rest a.lt a.bk.ne o ho
 have f:=fun o=>T.frz a.lt a.bk.ne o
 refine ⟨⟨H,⟨(r 3 (by omega)).trans a.pr.c0,(f 3).trans a.pr.f0,?_,a.pr.ne,a.pr.ge⟩,?_,(r 4 (by omega)).trans a.cj,(f 4).trans a.fj,(r 5 (by omega)).trans a.cn,(f 5).trans a.fn⟩,?_⟩
 ·exact row_same a.pr.own fun k hk=>T.block k (a.pr.own.lt k hk).2 (fun e=>a.pr.ne (e ▸ hk)) (a.ap k hk)
 ·intro g hg e
  rcases F g e with x | x
  ·exact a.ap g hg x
  ·have:=(a.pr.own.lt g hg).2;omega
 ·refine ⟨T.os,T.tape,T.output,T.size,fun k hk hn=>T.block k hk (fun e=>hn (Or.inl e)) (fun e=>hn (Or.inr (Or.inl e))),fun k hk=>?_⟩
  rcases hk with e | e | e
  ·exact Or.inl (Or.inl e)
  ·rcases F k e with x | x
   ·exact Or.inl (Or.inr (Or.inl x))
   ·exact Or.inr x
  ·exact Or.inl (Or.inr (Or.inr e))
theorem HsAt.closes {cs':List Cl} (a:HsAt w B ph sv cv h) (H:PerAt w' B ph cv' cs') (T:TurnI 3 (3 + 1) w w' ph cv) (F:Fresh w cv cv'):HsAt w' B ph sv cv' ⟨h.bk,cs',h.ls⟩∧HTurn w w' ph sv cv sv cv':=by
 have r:=fun o ho=>T.rest a.lt a.pr.ne o ho
 have f:=fun o=>T.frz a.lt a.pr.ne o
 refine ⟨⟨⟨(r 0 (by omega)).trans a.bk.c0,(r 1 (by omega)).trans a.bk.c1,(r 2 (by omega)).trans a.bk.c2,(f 0).trans a.bk.f0,(f 1).trans a.bk.f1,(f 2).trans a.bk.f2,?_,a.bk.ne,a.bk.ge⟩,H,?_,(r 4 (by omega)).trans a.cj,(f 4).trans a.fj,(r 5 (by omega)).trans a.cn,(f 5).trans a.fn⟩,?_⟩
 ·exact row_same a.bk.own fun k hk=>T.block k (a.bk.own.lt k hk).2 (fun e=>a.bk.ne (e ▸ hk)) (fun e=>a.ap k e hk)
 ·intro g hg e
  rcases F g hg with x | x
  ·exact a.ap g x e
  ·have:=(a.bk.own.lt g e).2;omega
 ·refine ⟨T.os,T.tape,T.output,T.size,fun k hk hn=>T.block k hk (fun e=>hn (Or.inl e)) (fun e=>hn (Or.inr (Or.inr e))),fun k hk=>?_⟩
  rcases hk with e | e | e
  ·exact Or.inl (Or.inl e)
  ·exact Or.inl (Or.inr (Or.inl e))
  ·rcases F k e with x | x
   ·exact Or.inl (Or.inr (Or.inr x))
   ·exact Or.inr x
theorem HsAt.jot (a:HsAt w B ph sv cv h) (l:List UInt8) :
  HsAt ((w.setCell ⟨ph,4,none⟩ (.string (ba (framesL 0 (h.ls ++ [l]))))).setCell ⟨ph,5,none⟩ (.int .i64 ((h.ls.length:Int) + 1))) B ph sv cv ⟨h.bk,h.cs,h.ls ++ [l]⟩
   ∧ HTurn w ((w.setCell ⟨ph,4,none⟩ (.string (ba (framesL 0 (h.ls ++ [l]))))).setCell ⟨ph,5,none⟩ (.int .i64 ((h.ls.length:Int) + 1))) ph sv cv sv cv:=by
 have o (k v v':_) (h4:k ≠ 4) (h5:k ≠ 5):((w.setCell ⟨ph,4,none⟩ v).setCell ⟨ph,5,none⟩ v').cell? ⟨ph,k,none⟩=w.cell? ⟨ph,k,none⟩:=by
  rw [set_other (by intro e;injection e with _ e2;omega),set_other (by intro e;injection e with _ e2;omega)]
 have b (k:Nat) (v v':Value) (hk:k ≠ ph):((w.setCell ⟨ph,4,none⟩ v).setCell ⟨ph,5,none⟩ v').heap[k]?=w.heap[k]?:=(Below.heap_setCell _ _ _ _ hk).trans (Below.heap_setCell _ _ _ _ hk)
 have n1:∀ k,sv.ownBlock=some k→k ≠ ph:=fun k hk e=>a.bk.ne (e ▸ hk)
 have n2:∀ k,cv.ownBlock=some k→k ≠ ph:=fun k hk e=>a.pr.ne (e ▸ hk)
 refine ⟨⟨⟨(o 0 _ _ (by omega) (by omega)).trans a.bk.c0,(o 1 _ _ (by omega) (by omega)).trans a.bk.c1,(o 2 _ _ (by omega) (by omega)).trans a.bk.c2,set_frz.trans (set_frz.trans a.bk.f0),set_frz.trans (set_frz.trans a.bk.f1),set_frz.trans (set_frz.trans a.bk.f2),row_same a.bk.own fun k hk=>b k _ _ (n1 k hk),a.bk.ne,a.bk.ge⟩,
  ⟨(o 3 _ _ (by omega) (by omega)).trans a.pr.c0,set_frz.trans (set_frz.trans a.pr.f0),row_same a.pr.own fun k hk=>b k _ _ (n2 k hk),a.pr.ne,a.pr.ge⟩,a.ap,?_,set_frz.trans (set_frz.trans a.fj),?_,set_frz.trans (set_frz.trans a.fn)⟩,?_⟩
 ·rw [set_other (by intro e;injection e with _ e2;omega)]
  exact set_same a.cj
 ·have e:(((h.ls ++ [l]).length:Nat):Int)=(h.ls.length:Int) + 1:=by simp
  rw [e]
  exact set_same ((set_other (by intro e;injection e with _ e2;omega)).trans a.cn)
 ·exact ⟨rfl,rfl,rfl,by simp [World.setCell],fun k _ hn=>b k _ _ (fun e=>hn (Or.inl e)),fun _ hk=>Or.inl hk⟩
end
theorem own_mono {w:World} {B B':Nat} {T:TypeId} {m n:Nat} {v:Value} {xs:List Value} (h:w.ownsRow B T m v n xs) (hB:B'≤B):w.ownsRow B' T m v n xs:=by
 refine ⟨h.1,?_⟩
 rcases h.2 with x | ⟨g,cap,cur,e,hg,r⟩
 ·exact Or.inl x
 ·exact Or.inr ⟨g,cap,cur,e,Nat.le_trans hB hg,r⟩
structure TwoH (w:World) (B p1 p2:Nat) (s1 c1 s2 c2:Value) (h1 h2:Hs):Prop where
 a1:HsAt w B p1 s1 c1 h1
 a2:HsAt w B p2 s2 c2 h2
 ap:∀ k,Mine p1 s1 c1 k→¬ Mine p2 s2 c2 k
section
variable {w w':World} {B p1 p2:Nat} {s1 c1 s2 c2 s1' c1' s2' c2':Value} {h1 h2 h1' h2':Hs}
theorem TwoH.below (t:TwoH w B p1 p2 s1 c1 s2 c2 h1 h2) (hb:Below w.heap.size w w'):TwoH w' B p1 p2 s1 c1 s2 c2 h1 h2:=⟨t.a1.below hb,t.a2.below hb,t.ap⟩
theorem TwoH.first (t:TwoH w B p1 p2 s1 c1 s2 c2 h1 h2) (a:HsAt w' B p1 s1' c1' h1') (u:HTurn w w' p1 s1 c1 s1' c1'):TwoH w' B p1 p2 s1' c1' s2 c2 h1' h2:=
 ⟨a,t.a2.same fun k hk=>u.block k (t.a2.mine hk).2 (fun hm=>t.ap k hm hk),fun k hk hm=>by
  rcases u.fresh k hk with x | x
  ·exact t.ap k x hm
  ·have:=(t.a2.mine hm).2;omega⟩
theorem TwoH.second (t:TwoH w B p1 p2 s1 c1 s2 c2 h1 h2) (a:HsAt w' B p2 s2' c2' h2') (u:HTurn w w' p2 s2 c2 s2' c2'):TwoH w' B p1 p2 s1 c1 s2' c2' h1 h2':=
 ⟨t.a1.same fun k hk=>u.block k (t.a1.mine hk).2 (fun hm=>t.ap k hk hm),a,fun k hk hm=>by
  rcases u.fresh k hm with x | x
  ·exact t.ap k hk x
  ·have:=(t.a1.mine hk).2;omega⟩
theorem HsAt.mono {B':Nat} (a:HsAt w B p1 s1 c1 h1) (hB:B'≤B):HsAt w B' p1 s1 c1 h1:=
 ⟨⟨a.bk.c0,a.bk.c1,a.bk.c2,a.bk.f0,a.bk.f1,a.bk.f2,own_mono a.bk.own hB,a.bk.ne,Nat.le_trans hB a.bk.ge⟩,⟨a.pr.c0,a.pr.f0,own_mono a.pr.own hB,a.pr.ne,Nat.le_trans hB a.pr.ge⟩,a.ap,a.cj,a.fj,a.cn,a.fn⟩
theorem TwoH.of_later (a1:HsAt w B p1 s1 c1 h1) (a2:HsAt w' w.heap.size p2 s2 c2 h2) (hb:Below w.heap.size w w') (hB:B≤w.heap.size):TwoH w' B p1 p2 s1 c1 s2 c2 h1 h2:=
 ⟨a1.below hb,a2.mono hB,
  fun k hk hm=>by
   have x1:=(a1.mine hk).2
   have x2:=(a2.mine hm).1
   omega⟩
theorem house_new (w:World) (B:Nat) (hB:B≤w.heap.size):HsAt (w.alloc (.cells #[.slice none 0 0,.int .i64 0,.int .i64 0,.slice none 0 0,.string ⟨#[]⟩,.int .i64 0] 36)) B w.heap.size (.slice none 0 0) (.slice none 0 0) hs0:=
 ⟨⟨by simp,by simp [hs0,bk0],by simp [hs0,bk0],by simp,by simp,by simp,World.ownsRow_nil _ _ _ _,by simp [Value.ownBlock],hB⟩,⟨by simp,by simp,World.ownsRow_nil _ _ _ _,by simp [Value.ownBlock],hB⟩,by simp [Value.ownBlock],by simp [hs0,framesL,ba],by simp,by simp [hs0],by simp⟩
end
end Go.Proofs.YtbleojodidbhiaaGreatDoor
namespace Go.Proofs.YtbleojodidbhiaaGreatDoor
open Go.RowKit
theorem item_small {e:Ev} (h:Rt e):e.item.size≤1000000:=by
 have:=h.1.1.2
 rw [dba_len] at this
 omega
theorem ev_zero (w:World):EvF (w.alloc (.cells #[.int .i64 0,.string ⟨#[]⟩,.int .i64 0,.int .i64 0,.int .i64 0,.int .i64 0,.int .i64 0] 93)) w.heap.size ⟨0,⟨#[]⟩,0,0,0,0,0⟩:=by
 refine ⟨?_,fun k=>?_⟩
 ·constructor <;> simp
 ·simp
set_option maxRecDepth 20000 in
set_option maxHeartbeats 4000000 in
theorem happ_ok (s:ByteArray) (e:Ev) (w:World) (hg:GlobE w) (hs:s.size≤1000) (h:Reads s.data.toList e) :
  Calls Tryz.prog 104 #[.string s] w fun x w'=>x = .returned (.tuple #[evV e,.nilIface])∧Below w.heap.size w w':=by
 obtain ⟨W0,hW0⟩:∃ W,W=w.alloc (.cells #[.int .i64 0,.string ⟨#[]⟩,.int .i64 0,.int .i64 0,.int .i64 0,.int .i64 0,.int .i64 0] 93):=⟨_,rfl⟩
 have hB0:Below w.heap.size w W0:=by rw [hW0];exact (Below.refl _ _).alloc (Nat.le_refl _) _
 have hR0:EvF W0 w.heap.size ⟨0,⟨#[]⟩,0,0,0,0,0⟩:=by rw [hW0];exact ev_zero w
 have hlt0:w.heap.size < W0.heap.size:=by rw [hW0];simp
 have hP:=eparse_ok s e W0 (hg.below hB0) hs h
 have hC:=fun W=>clone_txt e.item W (item_small h.1)
 obtain ⟨id,item,kind,qty,price,ofI,day⟩:=e
 unfold evV at hP ⊢
 simp only at hP hC ⊢
 have HW0:Hid (W0=_):=hW0
 clear hg h hW0
 go_enter Tryz.func104,Tryz.ntmps104
 go_wp2_with fail
 rw [← HW0.out]
 refine hP.mono ?_
 rintro x w1 ⟨rfl,hb1⟩
 obtain ⟨W2,hW2⟩:∃ W,W=w1.alloc (.cells #[.int .i64 id,.string item,.int .i64 kind,.int .i64 qty,.int .i64 price,.int .i64 ofI,.int .i64 day] 93):=⟨_,rfl⟩
 have hb2:Below w1.heap.size w1 W2:=by rw [hW2];exact (Below.refl _ _).alloc (Nat.le_refl _) _
 have hE:EvF W2 w1.heap.size ⟨id,item,kind,qty,price,ofI,day⟩:=by
  rw [hW2];refine ⟨?_,fun k=>?_⟩
  ·constructor <;> simp
  ·simp
 have hB1:Below w.heap.size w w1:=hB0.trans (hb1.mono hB0.size)
 have hB2:Below w.heap.size w W2:=hB1.trans (hb2.mono hB1.size)
 have hR2:=(hR0.below hb1).below hb2
 have hne:¬ w1.heap.size=w.heap.size:=by have:=hb1.size;omega
 have hne':¬ w.heap.size=w1.heap.size:=by omega
 have hge:=hB1.size
 have HW2:Hid (W2=_):=hW2
 clear hP hW2 HW0 hR0 hb2 hB0
 go_wp2_with fail
 rw [← HW2.out]
 refine (hC _).mono ?_
 rintro x w3 ⟨rfl,hb3⟩
 have hB3:Below w.heap.size w w3:=hB2.trans (hb3.mono hB2.size)
 obtain ⟨r0,r1,r2,r3,r4,r5,r6⟩:=(hR2.below hb3).ev
 have rf:=(hR2.below hb3).fz
 obtain ⟨x0,x1,x2,x3,x4,x5,x6⟩:=(hE.below hb3).ev
 have xf:=(hE.below hb3).fz
 simp only at r0 r1 r2 r3 r4 r5 r6 x0 x1 x2 x3 x4 x5 x6
 clear HW2 hC hE hR2 hb3 hB2 hb1 hB1
 go_wp2
 refine bodyPost_ret (v:=.tuple #[.agg #[.int .i64 id,.string item,.int .i64 kind,.int .i64 qty,.int .i64 price,.int .i64 ofI,.int .i64 day],.nilIface]) (by simp [results,Tryz.results104,go_sem, *]) rfl ⟨rfl,?_⟩
 exact (((((((hB3.setCell hge _).setCell (Nat.le_refl _) _).setCell (Nat.le_refl _) _).setCell (Nat.le_refl _) _).setCell (Nat.le_refl _) _).setCell (Nat.le_refl _) _).setCell (Nat.le_refl _) _).setCell (Nat.le_refl _) _
set_option maxRecDepth 20000 in
set_option maxHeartbeats 4000000 in
theorem happ_bad (s:ByteArray) (w:World) (hg:GlobE w) (hs:s.size≤1000) (h:∀ e,¬ Reads s.data.toList e) :
  Calls Tryz.prog 104 #[.string s] w fun x w'=>x = .returned (.tuple #[evV ev0,errV 3])∧Below w.heap.size w w':=by
 obtain ⟨W0,hW0⟩:∃ W,W=w.alloc (.cells #[.int .i64 0,.string ⟨#[]⟩,.int .i64 0,.int .i64 0,.int .i64 0,.int .i64 0,.int .i64 0] 93):=⟨_,rfl⟩
 have hB0:Below w.heap.size w W0:=by rw [hW0];exact (Below.refl _ _).alloc (Nat.le_refl _) _
 have hR0:EvF W0 w.heap.size ⟨0,⟨#[]⟩,0,0,0,0,0⟩:=by rw [hW0];exact ev_zero w
 have hlt0:w.heap.size < W0.heap.size:=by rw [hW0];simp
 have hP:=eparse_bad s W0 (hg.below hB0) hs h
 unfold evV ev0 at hP ⊢
 simp only at hP ⊢
 unfold errV
 rw [if_neg (by decide)]
 have HW0:Hid (W0=_):=hW0
 clear hg h hW0
 go_enter Tryz.func104,Tryz.ntmps104
 go_wp2_with fail
 rw [← HW0.out]
 refine hP.mono ?_
 rintro x w1 ⟨rfl,hb1⟩
 obtain ⟨W2,hW2⟩:∃ W,W=w1.alloc (.cells #[.int .i64 0,.string ⟨#[]⟩,.int .i64 0,.int .i64 0,.int .i64 0,.int .i64 0,.int .i64 0] 93):=⟨_,rfl⟩
 have hb2:Below w1.heap.size w1 W2:=by rw [hW2];exact (Below.refl _ _).alloc (Nat.le_refl _) _
 have hB1:Below w.heap.size w w1:=hB0.trans (hb1.mono hB0.size)
 have hB2:Below w.heap.size w W2:=hB1.trans (hb2.mono hB1.size)
 obtain ⟨r0,r1,r2,r3,r4,r5,r6⟩:=((hR0.below hb1).below hb2).ev
 have rf:=((hR0.below hb1).below hb2).fz
 simp only at r0 r1 r2 r3 r4 r5 r6
 rw [hW2] at r0 r1 r2 r3 r4 r5 r6 rf hB2
 clear hP hW2 HW0 hR0 hb2 hB0 hb1 hB1
 go_wp2
 refine bodyPost_ret (v:=.tuple #[.agg #[.int .i64 0,.string ⟨#[]⟩,.int .i64 0,.int .i64 0,.int .i64 0,.int .i64 0,.int .i64 0],.iface 69 (.int .i64 3)]) (by simp [results,Tryz.results104,go_sem, *]) rfl ⟨rfl,?_⟩
 exact ((((((hB2.setCell (Nat.le_refl _) _).setCell (Nat.le_refl _) _).setCell (Nat.le_refl _) _).setCell (Nat.le_refl _) _).setCell (Nat.le_refl _) _).setCell (Nat.le_refl _) _).setCell (Nat.le_refl _) _
theorem numO_some {l:List UInt8} {v:Int} (h:numO l=some v):Lib.atoiAll l = .ok v∧Lib.itoa v=l:=by
 unfold numO at h
 split at h
 ·rename_i u hu
  split at h
  ·rename_i hi
   cases h
   exact ⟨hu,hi⟩
  ·cases h
 ·cases h
theorem numO_none {l:List UInt8} (h:numO l=none) {v:Int} (ha:Lib.atoiAll l = .ok v):Lib.itoa v ≠ l:=fun e=>by
 unfold numO at h
 rw [ha] at h
 simp only [e,if_true] at h
 cases h
theorem numO_bd {l:List UInt8} {v:Int} (h:numO l=some v) : -9223372036854775808≤v∧v≤9223372036854775807:=Lib.atoiAll_bounds (numO_some h).1
set_option maxHeartbeats 4000000 in
theorem number_ok (s:ByteArray) (v:Int) (w:World) (hg:GlobN w) (hs:s.size≤1000) (h:numO s.data.toList=some v) :
  Calls Tryz.prog 107 #[.string s] w fun x w'=>x = .returned (.tuple #[.int .i64 v,.nilIface])∧Below w.heap.size w w':=by
 obtain ⟨h1,h2⟩:=numO_some h
 have hbd:=numO_bd h
 have hA:=atoiN s w hg (by omega)
 have HI:=fun (W:World) (hW:GlobN W)=>hidN (itoaN v W hW hbd.1 hbd.2)
 have he:eb (Lib.itoa v)=s:=by rw [h2];cases s;simp [eb]
 rw [he] at HI
 have HG:=hidN hg
 have H1:=hidN h1
 clear hg he h h1 h2 hbd
 go_enter Tryz.func107,Tryz.ntmps107
 go_wp2_with fail
 refine hA.mono ?_
 rintro x w1 ⟨⟨u,hu,rfl⟩ | ⟨u,tq,q,hu,rfl⟩,hb1⟩
 ·obtain rfl:u=v:=by
   have e:=hu.symm.trans H1.out
   injection e
  have hI:=(HI w1 (HG.out.below hb1)).out
  clear HI hu H1 hA
  go_wp2_with fail
  refine hI.mono ?_
  rintro x w2 ⟨rfl,hb2⟩
  clear hI
  go_wp2
  go_ret2
  exact ⟨rfl,hb1.trans (hb2.mono hb1.size)⟩
 ·exact absurd H1.out (hu v)
set_option maxHeartbeats 4000000 in
theorem number_bad (s:ByteArray) (w:World) (hg:GlobN w) (hs:s.size≤1000) (h:numO s.data.toList=none) :
  Calls Tryz.prog 107 #[.string s] w fun x w'=>x = .returned (.tuple #[.int .i64 0,errV 3])∧Below w.heap.size w w':=by
 have hA:=atoiN s w hg (by omega)
 have HG:=hidN hg
 have HN:=hidN h
 unfold errV
 rw [if_neg (by decide)]
 clear hg h
 go_enter Tryz.func107,Tryz.ntmps107
 go_wp2_with fail
 refine hA.mono ?_
 rintro x w1 ⟨⟨u,hu,rfl⟩ | ⟨u,tq,q,hu,rfl⟩,hb1⟩
 ·have hbd:=Lib.atoiAll_bounds hu
  have hI:=itoaN u w1 (HG.out.below hb1) hbd.1 hbd.2
  obtain ⟨t,ht⟩:∃ t,t=eb (Lib.itoa u):=⟨_,rfl⟩
  have hc:(t.toList == s.toList)=false:=by
   rw [ht,eqlB_iff]
   apply decide_eq_false
   rw [show (eb (Lib.itoa u)).data.toList=Lib.itoa u by simp [eb]]
   exact numO_none HN.out hu
  rw [← ht] at hI
  clear hu hA ht hbd
  go_wp2_with fail
  refine hI.mono ?_
  rintro x w2 ⟨rfl,hb2⟩
  clear hI
  go_wp2
  go_ret2
  exact ⟨rfl,hb1.trans (hb2.mono hb1.size)⟩
 ·clear hu hA
  go_wp2
  go_ret2
  exact ⟨rfl,hb1⟩
def tDay1:ByteArray:=⟨#[45,48,49]⟩
theorem day1_app (s:ByteArray):(s ++ tDay1).data.toList=s.data.toList ++ [45,48,49]:=by simp [tDay1,ByteArray.data_append]
set_option maxHeartbeats 4000000 in
theorem month_ok (s:ByteArray) (n:Int) (w:World) (hl:LenTab w) (hs:s.size≤1000) (h:dparsed (s.data.toList ++ [45,48,49])=some n) :
  Calls Tryz.prog 110 #[.string s] w fun x w'=>x = .returned (.tuple #[.int .i64 (dK n:Int),.nilIface])∧Below w.heap.size w w':=by
 rw [← day1_app] at h
 have hP:=dparse_ok (s ++ tDay1) n w hl h
 have hd:=dparsed_some h
 have hM:=fun (W:World) (hW:LenTab W)=>hidN (dmonth_ok n W hW hd.2.1 hd.2.2.1)
 have HL:=hidN hl
 unfold tDay1 at hP
 clear h hd hl
 go_enter Tryz.func110,Tryz.ntmps110
 go_wp2_with fail
 refine hP.mono ?_
 rintro x w1 ⟨rfl,hb1⟩
 have hm:=(hM w1 (HL.out.below hb1)).out
 clear hP hM
 go_wp2_with fail
 refine hm.mono ?_
 rintro x w2 ⟨rfl,hw2⟩
 subst w2
 clear hm
 go_wp2
 go_ret2
 exact ⟨rfl,hb1⟩
set_option maxHeartbeats 4000000 in
theorem month_bad (s:ByteArray) (w:World) (hl:LenTab w) (hs:s.size≤1000) (h:dparsed (s.data.toList ++ [45,48,49])=none) :
  Calls Tryz.prog 110 #[.string s] w fun x w'=>x = .returned (.tuple #[.int .i64 0,errV 3])∧Below w.heap.size w w':=by
 rw [← day1_app] at h
 have hz:(s ++ tDay1).size≤maxLen:=by rw [ByteArray.size_append];unfold maxLen;have:tDay1.size=3:=rfl;omega
 have hP:=dparse_bad (s ++ tDay1) w hl hz h
 unfold tDay1 at hP
 unfold errV
 rw [if_neg (by decide)]
 clear h hl hz
 go_enter Tryz.func110,Tryz.ntmps110
 go_wp2_with fail
 refine hP.mono ?_
 rintro x w1 ⟨rfl,hb1⟩
 clear hP
 go_wp2
 go_ret2
 exact ⟨rfl,hb1⟩
set_option maxHeartbeats 4000000 in
theorem hlate_any {w:World} {B ph:Nat} {sv cv:Value} {h:Hs} (a:HsAt w B ph sv cv h) (ht:LenTab w) (hc:h.cs.length≤60) (e:Ev) (h0:0≤e.day) (h1:e.day≤99999) :
  Calls Tryz.prog 106 #[.pointer (some ⟨ph,0,none⟩),evV e] w fun x w'=>x = .returned (.string (ba (lateT h.cs e)))∧Below w.heap.size w w':=by
 have hl:=fun W (hb:Below w.heap.size w W)=>hidN (late_any (a.below hb).pr (ht.below hb) (by omega) e.day h0 h1)
 have HX:Hid (lateT h.cs e=if cov h.cs (dK e.day)=true then tLate else []):=rfl
 obtain ⟨id,item,kind,qty,price,ofI,day⟩:=e
 unfold evV
 simp only at hl HX ⊢
 obtain ⟨W0,hW⟩:∃ W,W=(w.alloc (.cells #[.int .i64 id,.string item,.int .i64 kind,.int .i64 qty,.int .i64 price,.int .i64 ofI,.int .i64 day] 93)).drew:=⟨_,rfl⟩
 have hE:EvAt W0 w.heap.size ⟨id,item,kind,qty,price,ofI,day⟩:=by rw [hW];constructor <;> simp
 have hb0:Below w.heap.size w W0:=by rw [hW];exact ((Below.refl _ _).alloc (Nat.le_refl _) _).trans ((below_drew _).mono (by simp))
 have hl1:=(hl _ hb0).out
 generalize hcb:cov h.cs (dK day)=cb at hl1 HX
 rw [HX.out]
 have HW:Hid (W0=_):=hW
 clear hl a ht hcb hW
 have hU:=up_ne
 have hA:=anyW_ne
 go_enter Tryz.func106,Tryz.ntmps106
 go_wp2_with fail
 refine wp_region_turn [(.pure,0),(.pure,1),(.pure,2),(.pure,3),(.read,4),(.make,5)] (by kernel_rfl) (by kernel_rfl) ?_
 rw [← HW.out]
 have f6:=fun n:Up W0=>(hE.up n).c6
 simp only at f6
 clear HW
 repeat (first | refine turn_p rfl ?_ | refine turn_q rfl ?_);go_big_quiet_step (fail);refine wpQuiet_nil ?_
 refine turn_n rfl ?_
 go_wp2_with fail
 refine hl1.mono ?_
 rintro x w1 ⟨rfl,hb1⟩
 have hB:Below w.heap.size w w1:=hb0.trans (hb1.mono hb0.size)
 have HB1:=hidE hb1
 clear hl1 hb0 hb1 hE f6
 go_wp2_with fail
 refine ⟨rfl,HB1.out,?_⟩
 refine turn_nil ?_
 clear HB1
 cases cb
 ·go_wp2
  go_ret
  exact ⟨rfl,hB⟩
 ·go_wp2
  go_ret
  exact ⟨rfl,hB⟩
end Go.Proofs.YtbleojodidbhiaaGreatDoor
namespace Go.Proofs.YtbleojodidbhiaaGreatDoor
open Go.RowKit
structure GlobH (w:World):Prop where
 ev:GlobE w
theorem GlobH.below {w w':World} (h:GlobH w) (hb:Below w.heap.size w w'):GlobH w':=⟨h.ev.below hb⟩
def Ground (B:Nat) (w:World):Prop:=∃ w0,GlobH w0∧w0.heap.size≤B∧Below w0.heap.size w0 w
section
variable {w w':World} {B ph:Nat} {sv cv sv' cv':Value} {h:Hs}
theorem Ground.glob (g:Ground B w):GlobH w:=by
 obtain ⟨w0,h0,_,hb⟩:=g
 exact h0.below hb
theorem Ground.below (g:Ground B w) (hb:Below w.heap.size w w'):Ground B w':=by
 obtain ⟨w0,h0,h1,hb0⟩:=g
 exact ⟨w0,h0,h1,hb0.trans (hb.mono hb0.size)⟩
theorem Ground.turn (g:Ground B w) (a:HsAt w B ph sv cv h) (t:HTurn w w' ph sv cv sv' cv'):Ground B w':=by
 obtain ⟨w0,h0,h1,hb0⟩:=g
 exact ⟨w0,h0,h1,t.below (a.mono h1) hb0 hb0.size⟩
theorem Ground.of (g:GlobH w):Ground w.heap.size w:=⟨w,g,Nat.le_refl _,Below.refl _ _⟩
theorem Ground.up {B':Nat} (g:Ground B w) (hB:B≤B'):Ground B' w:=by
 obtain ⟨w0,h0,h1,hb0⟩:=g
 exact ⟨w0,h0,Nat.le_trans h1 hB,hb0⟩
end
end Go.Proofs.YtbleojodidbhiaaGreatDoor
namespace Go.Proofs.YtbleojodidbhiaaGreatDoor
open Go.RowKit
theorem cut_any (s:ByteArray) (w:World) (hg:GlobN w) (hs:s.size≤1000) :
  Calls Tryz.prog 32 #[.string s,.string ⟨#[32]⟩] w fun e w'=>(∃ f,e = .returned (.tuple #[.string (ba (cutL s.data.toList).1),.string (ba (cutL s.data.toList).2),.bool f]))∧∃ n,w'=w.drewN n:=by
 obtain ⟨m,hm⟩:=hg.ml
 have hc:=cut_lib s.data.toList
 refine (Tryz.strings_Cut s ⟨#[32]⟩ m w (by omega) hm).mono fun e w' ⟨he,hw⟩=>⟨⟨(Lib.cut s.data.toList [32]).2.2,?_⟩,hw⟩
 rw [he,← hc.1,← hc.2]
 rfl
end Go.Proofs.YtbleojodidbhiaaGreatDoor
