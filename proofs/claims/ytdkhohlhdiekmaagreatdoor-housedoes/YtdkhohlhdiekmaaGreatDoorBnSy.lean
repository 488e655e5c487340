/-  -/
import Derived.Test.YtdkhohlhdiekmaaGreatDoorBnSt
import Derived.Deep.DeepCutAuto
namespace Go.Proofs.YtdkhohlhdiekmaaGreatDoor
open Go.RowKit
open Go.Sort hiding Below
open Go.Shelf
variable {α:Type} [Inhabited α]
section
variable {lt:α→α→Bool}
variable {g:Nat} {lb:Array Value} {sf:Nat} {sb:Array Value} {blk N:Nat} {St:World→Array α→Prop}
def Merges (lt:α→α→Bool) (St:World→Array α→Prop) (blk a b:Nat) (d:Array α) (w:World):Ending→World→Prop:=fun e w'=>e = .returned (.tuple #[])∧∃ d',St w' d'∧SortedIn lt a b d'∧PermIn a b d d'∧w.grownBy w' (some blk)
set_option maxRecDepth 20000 in
set_option maxHeartbeats 8000000 in
theorem sym_step (S:Sorts lt g lb sf sb blk N St) (hO:SWO lt) (hN:N≤1000000) (a m b:Nat) (h1:a + 1 < m) (h2:m + 1 < b) (h3:b≤N)
    (ih:∀ a' m' b',b' - a' < b - a→a' < m'→m' < b'→b'≤N→∀ d w,St w d→SortedIn lt a' m' d→SortedIn lt m' b' d→Calls Tryz.prog 169 #[dV g lb sf sb,.int .i64 a',.int .i64 m',.int .i64 b'] w (Merges lt St blk a' b' d w))
    (d:Array α) (w:World) (h:St w d) (hs1:SortedIn lt a m d) (hs2:SortedIn lt m b d) :
    Calls Tryz.prog 169 #[dV g lb sf sb,.int .i64 a,.int .i64 m,.int .i64 b] w (Merges lt St blk a b d w):=by
  have hbl:=S.blt w d h
  have hsz:=S.size w d h
  have hrot:=fun W e (x y n:Nat) (hs:St W e) (hx:x < y) (hy:y < n) (hn:n≤N)=>rotate_any S e W hs x y n hx hy hn hN
  unfold dV at ih hrot ⊢
  obtain ⟨W0,hW0⟩:∃ W,W=w.alloc (.cells #[.func (.func g) #[] lb,.func (.func sf) #[] sb] 205):=⟨_,rfl⟩
  have hB0:Below w.heap.size w W0:=by rw [hW0];exact (Below.refl _ _).alloc (Nat.le_refl _) _
  have c0:W0.cell? ⟨w.heap.size,0,none⟩=some (.func (.func g) #[] lb):=by rw [hW0];simp
  have c1:W0.cell? ⟨w.heap.size,1,none⟩=some (.func (.func sf) #[] sb):=by rw [hW0];simp
  have HS0:Hid (St W0 d):=S.below _ _ _ h hB0
  have HW0:Hid (W0=_):=hW0
  have H1:Hid (SortedIn lt a m d):=hs1
  have H2:Hid (SortedIn lt m b d):=hs2
  have IH:Hid _:=ih
  have HROT:Hid _:=hrot
  have eg:=S.eg
  clear hW0 hs1 hs2 ih hrot
  go_enter Tryz.func169,Tryz.ntmps169
  have z0:¬ (m:Int) - (a:Int)=1:=by omega
  have z0b:((m:Int) - (a:Int) == 1)=false:=by simpa using z0
  have z3:¬ (b:Int) - (m:Int)=1:=by omega
  have z3b:((b:Int) - (m:Int) == 1)=false:=by simpa using z3
  obtain ⟨mid,hmid⟩:∃ x,x=(a + b) / 2:=⟨_,rfl⟩
  have em:((a:Int) + (b:Int)) / 2=(mid:Int):=by omega
  obtain ⟨s0,r0,hsr⟩:∃ s0 r0:Nat,(mid < m∧s0 + b=mid + m∧r0=mid)∨(m≤mid∧s0=a∧r0=m):=by
    rcases Nat.lt_or_ge mid m with h4 | h4
    · exact ⟨mid + m - b,mid,Or.inl ⟨h4,by omega,rfl⟩⟩
    · exact ⟨a,m,Or.inr ⟨h4,rfl,rfl⟩⟩
  have HSR:Hid ((mid < m∧s0 + b=mid + m∧r0=mid)∨(m≤mid∧s0=a∧r0=m)):=hsr
  have HMID:Hid (mid=(a + b) / 2):=hmid
  clear hsr hmid
  go_upto_if 106 with fail
  rw [← HW0.out]
  go_cut [18,19] from 23 (fun s18 s19 wx=>wx=W0∧s18 = .int .i64 s0∧s19 = .int .i64 r0)
  case first=>
    rcases HSR.out with ⟨x1,x2,x3⟩ | ⟨x1,x2,x3⟩
    · have z4:(mid:Int) < (m:Int):=by omega
      go_wp2
      go_meet
      case rel=>exact ⟨rfl,congrArg (Value.int .i64) (by omega),congrArg (Value.int .i64) (by omega)⟩
    · have z4:¬ (mid:Int) < (m:Int):=by omega
      go_wp2
      go_meet
      case rel=>exact ⟨rfl,congrArg (Value.int .i64) (by omega),congrArg (Value.int .i64) (by omega)⟩
  case rest=>
    obtain ⟨hw,rfl,rfl⟩:=hcut
    subst wc
    have b0:Hid (a≤s0∧s0≤r0∧r0≤m∧r0≤mid∧mid + m≤s0 + b):=by have:=HSR.out;have:=HMID.out;exact (by omega:a≤s0∧s0≤r0∧r0≤m∧r0≤mid∧mid + m≤s0 + b)
    go_wp2
    go_loopw [18,19] (fun i j wr=>∃ (p q:Nat),s0≤p∧p≤q∧q≤r0∧i = .int .i64 p∧j = .int .i64 q∧Hid (s0 < p→lt d[mid + m - p]! d[p - 1]! = false)∧Hid (q < r0→lt d[mid + m - 1 - q]! d[q]! = true)∧Hid (St wr d)∧Hid (W0.grownBy wr (some blk))) (fun i j _=>(intOf j).toNat - (intOf i).toNat)
    case atStart=>exact ⟨s0,r0,Nat.le_refl _,b0.out.2.1,Nat.le_refl _,rfl,rfl,fun h=>absurd h (Nat.lt_irrefl _),fun h=>absurd h (Nat.lt_irrefl _),HS0,grown_refl _ _⟩
    case round=>
      obtain ⟨p,q,hp,hpq,hqb,rfl,rfl,K1,K2,HS,HG⟩:=hrel
      have cw0:wr.cell? ⟨w.heap.size,0,none⟩=some (.func (.func g) #[] lb):=grown_cell HG.out (by omega) c0
      have cw1:wr.cell? ⟨w.heap.size,1,none⟩=some (.func (.func sf) #[] sb):=grown_cell HG.out (by omega) c1
      have bb:=b0.out
      by_cases hlt:p < q
      · have hl:=S.less wr d (mid + m - 1 - (p + q) / 2) ((p + q) / 2) HS.out (by omega) (by omega)
        rw [show ((mid + m - 1 - (p + q) / 2:Nat):Int)=(mid:Int) + m - 1 - ((p:Int) + q) / 2 by omega,show (((p + q) / 2:Nat):Int)=((p:Int) + q) / 2 by omega] at hl
        generalize hlv:lt d[mid + m - 1 - (p + q) / 2]! d[(p + q) / 2]! = lv at hl
        have HLV:Hid (lt d[mid + m - 1 - (p + q) / 2]! d[(p + q) / 2]! = lv):=hlv
        clear hlv
        go_wp2_with fail
        refine hl.mono ?_
        rintro e3 w2 ⟨rfl,hb2⟩
        have HS3:Hid (St w2 d):=S.below _ _ _ HS.out hb2
        have HG3:Hid (W0.grownBy w2 (some blk)):=grown_then HG.out (grown_below hb2)
        clear hl cw0
        cases lv with
        | false=>
          go_wp2
          go_roundw
          case rel=>exact ⟨(p + q) / 2 + 1,q,by omega,by omega,hqb,by rw [show ((p:Int) + (q:Int)) / 2 + 1=(((p + q) / 2 + 1:Nat):Int) by omega],rfl,fun _=>by rw [at_eq d (show mid + m - ((p + q) / 2 + 1)=mid + m - 1 - (p + q) / 2 by omega)];exact HLV.out,K2,HS3,HG3⟩
          case measure=>simp [intOf];omega
        | true=>
          go_wp2
          go_roundw
          case rel=>exact ⟨p,(p + q) / 2,by omega,by omega,by omega,rfl,by rw [show ((p:Int) + (q:Int)) / 2=(((p + q) / 2:Nat):Int) by omega],K1,fun _=>HLV.out,HS3,HG3⟩
          case measure=>simp [intOf];omega
      · obtain rfl:q=p:=by omega
        obtain ⟨en,hen⟩:∃ x,x=mid + m - q:=⟨_,rfl⟩
        have een:(mid:Int) + (m:Int) - (q:Int)=(en:Int):=by omega
        have HEN:Hid (en + q=mid + m):=(by omega:en + q=mid + m)
        clear hen
        have HN:Hid (b≤N):=h3
        have HK1:Hid (a < q→en < b→lt d[en]! d[q - 1]! = false):=fun x1 x2=>by
          have:=HSR.out;have:=HEN.out
          have e:=K1.out (by omega)
          rwa [at_eq d (show mid + m - q=en by omega)] at e
        have HK2:Hid (q < m→m < en→lt d[q]! d[en - 1]! = false):=fun x1 x2=>by
          have:=HSR.out;have:=HEN.out
          have e:=K2.out (by omega)
          rw [at_eq d (show mid + m - 1 - q=en - 1 by omega)] at e
          exact swo_asym hO e
        have b1:a≤q∧q≤m∧m≤en∧en≤b∧q≤mid∧mid≤en∧a < mid∧mid < b:=by have:=HEN.out;have:=HMID.out;omega
        go_upto_if 145 with fail
        all_goals
          go_cut [] from 23 (fun wx=>∃ d1,Hid (St wx d1)∧Hid (Rotated q m en d d1)∧Hid (PermIn a b d d1)∧Hid (W0.grownBy wx (some blk)))
          case first=>
            by_cases hr:q < m∧m < en
            · have z5:(q:Int) < (m:Int):=by omega
              have z6:(m:Int) < (en:Int):=by omega
              first
              | (exfalso;omega)
              | (have hc:=HROT.out wr d q m en HS.out hr.1 hr.2 (by omega)
                 go_wp2_with fail
                 refine hc.mono ?_
                 rintro e3 w2 ⟨rfl,d2,hs2,hw2,hp2,hg2⟩
                 have HS4:Hid (St w2 d2):=hs2
                 have HR4:Hid (Rotated q m en d d2):=hw2
                 have HP4:Hid (PermIn a b d d2):=permIn_mono _ _ _ _ _ _ (by omega) (by omega) (by omega) hp2
                 have HG4:Hid (W0.grownBy w2 (some blk)):=grown_then HG.out hg2
                 clear hs2 hw2 hp2 hg2 hc
                 go_wp2
                 go_meet
                 case rel=>exact ⟨d2,HS4,HR4,HP4,HG4⟩)
            · have z5:¬ ((q:Int) < (m:Int)∧(m:Int) < (en:Int)):=by omega
              have z6:¬ (m:Int) < (en:Int)∨¬ (q:Int) < (m:Int):=by omega
              have HR4:Hid (Rotated q m en d d):=by
                rcases Nat.lt_or_ge q m with y | y
                · obtain rfl:en=m:=by omega
                  exact rotated_none_right d
                · obtain rfl:q=m:=by omega
                  exact rotated_none_left d
              rcases z6 with z6 | z6
              all_goals go_wp2
              all_goals
                go_meet
                case rel=>exact ⟨d,HS,HR4,permIn_refl _ _ _,HG⟩
          case rest=>
            obtain ⟨d1,HS5,HR5,HP5,HG5⟩:=hcut
            obtain ⟨W5,rfl⟩:∃ x,x=wc:=⟨_,rfl⟩
            have he:=HEN.out
            have HX:Hid (∀ i j,a≤i→i < mid→mid≤j→j < b→lt d1[j]! d1[i]! = false):=cross_rot hO H1.out H2.out mid en he b1.1 b1.2.1 b1.2.2.1 b1.2.2.2.1 HR5.out HK1.out HK2.out
            have HY:Hid (SortedIn lt a q d1∧SortedIn lt q mid d1∧SortedIn lt mid en d1∧SortedIn lt en b d1):=rot_parts H1.out H2.out mid en he b1.1 b1.2.1 b1.2.2.1 b1.2.2.2.1 HR5.out
            have v0:W5.cell? ⟨w.heap.size,0,none⟩=some (.func (.func g) #[] lb):=grown_cell HG5.out (by omega) c0
            have v1:W5.cell? ⟨w.heap.size,1,none⟩=some (.func (.func sf) #[] sb):=grown_cell HG5.out (by omega) c1
            have hs5:=S.size W5 d1 HS5.out
            clear cw0 cw1
            go_upto_if 158 with fail
            all_goals
              go_cut [] from 23 (fun wx=>∃ d2,Hid (St wx d2)∧Hid (SortedIn lt a mid d2)∧Hid (PermIn a mid d1 d2)∧Hid (W0.grownBy wx (some blk)))
              case first=>
                by_cases hr:a < q∧q < mid
                · have z5:(a:Int) < (q:Int):=by omega
                  have z6:(q:Int) < (mid:Int):=by omega
                  first
                  | (exfalso;omega)
                  | (have hc:=IH.out a q mid (by omega) hr.1 hr.2 (by omega) d1 W5 HS5.out HY.out.1 HY.out.2.1
                     go_wp2_with fail
                     refine hc.mono ?_
                     rintro e3 w2 ⟨rfl,d2,hs2,hw2,hp2,hg2⟩
                     have HS6:Hid (St w2 d2):=hs2
                     have HR6:Hid (SortedIn lt a mid d2):=hw2
                     have HP6:Hid (PermIn a mid d1 d2):=hp2
                     have HG6:Hid (W0.grownBy w2 (some blk)):=grown_then HG5.out hg2
                     clear hs2 hw2 hp2 hg2 hc
                     go_wp2
                     go_meet
                     case rel=>exact ⟨d2,HS6,HR6,HP6,HG6⟩)
                · have z6:¬ (q:Int) < (mid:Int)∨¬ (a:Int) < (q:Int):=by omega
                  have HR6:Hid (SortedIn lt a mid d1):=by
                    rcases Nat.lt_or_ge a q with y | y
                    · have e1:q=mid:=by omega
                      have:=HY.out.1
                      rw [e1] at this
                      exact this
                    · have e1:q=a:=by omega
                      have:=HY.out.2.1
                      rw [e1] at this
                      exact this
                  rcases z6 with z6 | z6
                  all_goals go_wp2
                  all_goals
                    go_meet
                    case rel=>exact ⟨d1,HS5,HR6,permIn_refl _ _ _,HG5⟩
              case rest=>
                obtain ⟨d2,HS6,HR6,HP6,HG6⟩:=hcut
                obtain ⟨W6,rfl⟩:∃ x,x=wc:=⟨_,rfl⟩
                have HX2:Hid (∀ i j,a≤i→i < mid→mid≤j→j < b→lt d2[j]! d2[i]! = false):=cross_perm (by omega) (by omega) HX.out HP6.out
                have HY3:Hid (SortedIn lt mid en d2):=sorted_out HY.out.2.2.1 HP6.out (Or.inr (Nat.le_refl _))
                have HY4:Hid (SortedIn lt en b d2):=sorted_out HY.out.2.2.2 HP6.out (Or.inr (by omega))
                have y0:W6.cell? ⟨w.heap.size,0,none⟩=some (.func (.func g) #[] lb):=grown_cell HG6.out (by omega) c0
                have y1:W6.cell? ⟨w.heap.size,1,none⟩=some (.func (.func sf) #[] sb):=grown_cell HG6.out (by omega) c1
                have hs6:=S.size W6 d2 HS6.out
                have HQ:Hid (PermIn a b d d2):=permIn_trans _ _ _ _ _ HP5.out (permIn_mono _ _ _ _ _ _ (by omega) (by omega) (by omega) HP6.out)
                clear v0 v1
                go_upto_if 171 with fail
                all_goals
                  by_cases hr:mid < en∧en < b
                  · have z5:(mid:Int) < (en:Int):=by omega
                    have z6:(en:Int) < (b:Int):=by omega
                    first
                    | (exfalso;omega)
                    | (have hc:=IH.out mid en b (by omega) hr.1 hr.2 (by omega) d2 W6 HS6.out HY3.out HY4.out
                       go_wp2_with fail
                       refine hc.mono ?_
                       rintro e3 w2 ⟨rfl,d3,hs2,hw2,hp2,hg2⟩
                       go_wp2
                       go_end0
                       exact ⟨rfl,d3,hs2,sorted_join (sorted_out HR6.out hp2 (Or.inl (Nat.le_refl _))) hw2 (cross_perm2 (by omega) HX2.out hp2),permIn_trans _ _ _ _ _ HQ.out (permIn_mono _ _ _ _ _ _ (by omega) (by omega) (by omega) hp2),grown_then (grown_then (grown_below hB0) HG6.out) hg2⟩)
                  · have z6:¬ (en:Int) < (b:Int)∨¬ (mid:Int) < (en:Int):=by omega
                    have HR7:Hid (SortedIn lt mid b d2):=by
                      rcases Nat.lt_or_ge mid en with y | y
                      · have e1:en=b:=by omega
                        have:=HY3.out
                        rw [e1] at this
                        exact this
                      · have e1:en=mid:=by omega
                        have:=HY4.out
                        rw [e1] at this
                        exact this
                    rcases z6 with z6 | z6
                    all_goals go_wp2
                    all_goals
                      go_end0
                      exact ⟨rfl,d2,HS6.out,sorted_join HR6.out HR7.out HX2.out,HQ.out,grown_then (grown_below hB0) HG6.out⟩
theorem sym_any (S:Sorts lt g lb sf sb blk N St) (hO:SWO lt) (hN:N≤1000000):∀ (k a m b:Nat),b - a=k→a < m→m < b→b≤N→∀ d w,St w d→SortedIn lt a m d→SortedIn lt m b d→Calls Tryz.prog 169 #[dV g lb sf sb,.int .i64 a,.int .i64 m,.int .i64 b] w (Merges lt St blk a b d w):=by
  intro k
  induction k using Nat.strongRecOn with
  | ind k ih=>
    intro a m b hk h1 h2 h3 d w h hs1 hs2
    by_cases e1:m=a + 1
    · subst e1
      exact merge_one_right S hO d w h a _ b rfl h2 h3 hN hs2
    · by_cases e2:b=m + 1
      · exact merge_one_left S hO d w h a m b e2 (by omega) h3 hN hs1
      · exact sym_step S hO hN a m b (by omega) (by omega) h3 (fun a' m' b' hl x1 x2 x3=>ih (b' - a') (by omega) a' m' b' rfl x1 x2 x3) d w h hs1 hs2
end
end Go.Proofs.YtdkhohlhdiekmaaGreatDoor
namespace Go.Proofs.YtdkhohlhdiekmaaGreatDoor
open Go.RowKit
open Go.Sort hiding Below
open Go.Shelf
variable {α:Type} [Inhabited α]
section
variable {lt:α→α→Bool} {q:α→α→Prop}
variable {g:Nat} {lb:Array Value} {sf:Nat} {sb:Array Value} {blk N:Nat} {St:World→Array α→Prop}
set_option maxRecDepth 20000 in
set_option maxHeartbeats 8000000 in
theorem sb_sym_step (S:SortsQ lt q g lb sf sb blk N St) (hO:SWO lt) (hN:N≤1000000) (a m b:Nat) (h1:a + 1 < m) (h2:m + 1 < b) (h3:b≤N)
    (ih:∀ a' m' b',b' - a' < b - a→a' < m'→m' < b'→b'≤N→∀ d w,St w d→SortedIn lt a' m' d→SortedIn lt m' b' d→Ap q a' m' b' d→Calls Tryz.prog 169 #[dV g lb sf sb,.int .i64 a',.int .i64 m',.int .i64 b'] w (Merges lt St blk a' b' d w))
    (d:Array α) (w:World) (h:St w d) (hs1:SortedIn lt a m d) (hs2:SortedIn lt m b d) (hap:Ap q a m b d) :
    Calls Tryz.prog 169 #[dV g lb sf sb,.int .i64 a,.int .i64 m,.int .i64 b] w (Merges lt St blk a b d w):=by
  have hbl:=S.blt w d h
  have hsz:=S.size w d h
  have hrot:=fun W e (x y n:Nat) (hs:St W e) (hx:x < y) (hy:y < n) (hn:n≤N)=>sb_rotate_any S e W hs x y n hx hy hn hN
  unfold dV at ih hrot ⊢
  obtain ⟨W0,hW0⟩:∃ W,W=w.alloc (.cells #[.func (.func g) #[] lb,.func (.func sf) #[] sb] 205):=⟨_,rfl⟩
  have hB0:Below w.heap.size w W0:=by rw [hW0];exact (Below.refl _ _).alloc (Nat.le_refl _) _
  have c0:W0.cell? ⟨w.heap.size,0,none⟩=some (.func (.func g) #[] lb):=by rw [hW0];simp
  have c1:W0.cell? ⟨w.heap.size,1,none⟩=some (.func (.func sf) #[] sb):=by rw [hW0];simp
  have HS0:Hid (St W0 d):=S.below _ _ _ h hB0
  have HW0:Hid (W0=_):=hW0
  have H1:Hid (SortedIn lt a m d):=hs1
  have H2:Hid (SortedIn lt m b d):=hs2
  have HAP:Hid (Ap q a m b d):=hap
  have IH:Hid _:=ih
  have HROT:Hid _:=hrot
  have eg:=S.eg
  clear hW0 hs1 hs2 ih hrot hap
  go_enter Tryz.func169,Tryz.ntmps169
  have z0:¬ (m:Int) - (a:Int)=1:=by omega
  have z0b:((m:Int) - (a:Int) == 1)=false:=by simpa using z0
  have z3:¬ (b:Int) - (m:Int)=1:=by omega
  have z3b:((b:Int) - (m:Int) == 1)=false:=by simpa using z3
  obtain ⟨mid,hmid⟩:∃ x,x=(a + b) / 2:=⟨_,rfl⟩
  have em:((a:Int) + (b:Int)) / 2=(mid:Int):=by omega
  obtain ⟨s0,r0,hsr⟩:∃ s0 r0:Nat,(mid < m∧s0 + b=mid + m∧r0=mid)∨(m≤mid∧s0=a∧r0=m):=by
    rcases Nat.lt_or_ge mid m with h4 | h4
    · exact ⟨mid + m - b,mid,Or.inl ⟨h4,by omega,rfl⟩⟩
    · exact ⟨a,m,Or.inr ⟨h4,rfl,rfl⟩⟩
  have HSR:Hid ((mid < m∧s0 + b=mid + m∧r0=mid)∨(m≤mid∧s0=a∧r0=m)):=hsr
  have HMID:Hid (mid=(a + b) / 2):=hmid
  clear hsr hmid
  go_upto_if 106 with fail
  rw [← HW0.out]
  go_cut [18,19] from 23 (fun s18 s19 wx=>wx=W0∧s18 = .int .i64 s0∧s19 = .int .i64 r0)
  case first=>
    rcases HSR.out with ⟨x1,x2,x3⟩ | ⟨x1,x2,x3⟩
    · have z4:(mid:Int) < (m:Int):=by omega
      go_wp2
      go_meet
      case rel=>exact ⟨rfl,congrArg (Value.int .i64) (by omega),congrArg (Value.int .i64) (by omega)⟩
    · have z4:¬ (mid:Int) < (m:Int):=by omega
      go_wp2
      go_meet
      case rel=>exact ⟨rfl,congrArg (Value.int .i64) (by omega),congrArg (Value.int .i64) (by omega)⟩
  case rest=>
    obtain ⟨hw,rfl,rfl⟩:=hcut
    subst wc
    have b0:Hid (a≤s0∧s0≤r0∧r0≤m∧r0≤mid∧mid + m≤s0 + b):=by have:=HSR.out;have:=HMID.out;exact (by omega:a≤s0∧s0≤r0∧r0≤m∧r0≤mid∧mid + m≤s0 + b)
    go_wp2
    go_loopw [18,19] (fun i j wr=>∃ (p z:Nat),s0≤p∧p≤z∧z≤r0∧i = .int .i64 p∧j = .int .i64 z∧Hid (s0 < p→lt d[mid + m - p]! d[p - 1]! = false)∧Hid (z < r0→lt d[mid + m - 1 - z]! d[z]! = true)∧Hid (St wr d)∧Hid (W0.grownBy wr (some blk))) (fun i j _=>(intOf j).toNat - (intOf i).toNat)
    case atStart=>exact ⟨s0,r0,Nat.le_refl _,b0.out.2.1,Nat.le_refl _,rfl,rfl,fun h=>absurd h (Nat.lt_irrefl _),fun h=>absurd h (Nat.lt_irrefl _),HS0,grown_refl _ _⟩
    case round=>
      obtain ⟨p,z,hp,hpq,hqb,rfl,rfl,K1,K2,HS,HG⟩:=hrel
      have cw0:wr.cell? ⟨w.heap.size,0,none⟩=some (.func (.func g) #[] lb):=grown_cell HG.out (by omega) c0
      have cw1:wr.cell? ⟨w.heap.size,1,none⟩=some (.func (.func sf) #[] sb):=grown_cell HG.out (by omega) c1
      have bb:=b0.out
      by_cases hlt:p < z
      · have hl:=S.less wr d (mid + m - 1 - (p + z) / 2) ((p + z) / 2) HS.out (by omega) (by omega) (HAP.out _ _ (by omega) (by omega) (by omega) (by omega))
        rw [show ((mid + m - 1 - (p + z) / 2:Nat):Int)=(mid:Int) + m - 1 - ((p:Int) + z) / 2 by omega,show (((p + z) / 2:Nat):Int)=((p:Int) + z) / 2 by omega] at hl
        generalize hlv:lt d[mid + m - 1 - (p + z) / 2]! d[(p + z) / 2]! = lv at hl
        have HLV:Hid (lt d[mid + m - 1 - (p + z) / 2]! d[(p + z) / 2]! = lv):=hlv
        clear hlv
        go_wp2_with fail
        refine hl.mono ?_
        rintro e3 w2 ⟨rfl,hb2⟩
        have HS3:Hid (St w2 d):=S.below _ _ _ HS.out hb2
        have HG3:Hid (W0.grownBy w2 (some blk)):=grown_then HG.out (grown_below hb2)
        clear hl cw0
        cases lv with
        | false=>
          go_wp2
          go_roundw
          case rel=>exact ⟨(p + z) / 2 + 1,z,by omega,by omega,hqb,by rw [show ((p:Int) + (z:Int)) / 2 + 1=(((p + z) / 2 + 1:Nat):Int) by omega],rfl,fun _=>by rw [at_eq d (show mid + m - ((p + z) / 2 + 1)=mid + m - 1 - (p + z) / 2 by omega)];exact HLV.out,K2,HS3,HG3⟩
          case measure=>simp [intOf];omega
        | true=>
          go_wp2
          go_roundw
          case rel=>exact ⟨p,(p + z) / 2,by omega,by omega,by omega,rfl,by rw [show ((p:Int) + (z:Int)) / 2=(((p + z) / 2:Nat):Int) by omega],K1,fun _=>HLV.out,HS3,HG3⟩
          case measure=>simp [intOf];omega
      · obtain rfl:z=p:=by omega
        obtain ⟨en,hen⟩:∃ x,x=mid + m - z:=⟨_,rfl⟩
        have een:(mid:Int) + (m:Int) - (z:Int)=(en:Int):=by omega
        have HEN:Hid (en + z=mid + m):=(by omega:en + z=mid + m)
        clear hen
        have HN:Hid (b≤N):=h3
        have HK1:Hid (a < z→en < b→lt d[en]! d[z - 1]! = false):=fun x1 x2=>by
          have:=HSR.out;have:=HEN.out
          have e:=K1.out (by omega)
          rwa [at_eq d (show mid + m - z=en by omega)] at e
        have HK2:Hid (z < m→m < en→lt d[z]! d[en - 1]! = false):=fun x1 x2=>by
          have:=HSR.out;have:=HEN.out
          have e:=K2.out (by omega)
          rw [at_eq d (show mid + m - 1 - z=en - 1 by omega)] at e
          exact swo_asym hO e
        have b1:a≤z∧z≤m∧m≤en∧en≤b∧z≤mid∧mid≤en∧a < mid∧mid < b:=by have:=HEN.out;have:=HMID.out;omega
        go_upto_if 145 with fail
        all_goals
          go_cut [] from 23 (fun wx=>∃ d1,Hid (St wx d1)∧Hid (Rotated z m en d d1)∧Hid (PermIn a b d d1)∧Hid (W0.grownBy wx (some blk)))
          case first=>
            by_cases hr:z < m∧m < en
            · have z5:(z:Int) < (m:Int):=by omega
              have z6:(m:Int) < (en:Int):=by omega
              first
              | (exfalso;omega)
              | (have hc:=HROT.out wr d z m en HS.out hr.1 hr.2 (by omega)
                 go_wp2_with fail
                 refine hc.mono ?_
                 rintro e3 w2 ⟨rfl,d2,hs2,hw2,hp2,hg2⟩
                 have HS4:Hid (St w2 d2):=hs2
                 have HR4:Hid (Rotated z m en d d2):=hw2
                 have HP4:Hid (PermIn a b d d2):=permIn_mono _ _ _ _ _ _ (by omega) (by omega) (by omega) hp2
                 have HG4:Hid (W0.grownBy w2 (some blk)):=grown_then HG.out hg2
                 clear hs2 hw2 hp2 hg2 hc
                 go_wp2
                 go_meet
                 case rel=>exact ⟨d2,HS4,HR4,HP4,HG4⟩)
            · have z5:¬ ((z:Int) < (m:Int)∧(m:Int) < (en:Int)):=by omega
              have z6:¬ (m:Int) < (en:Int)∨¬ (z:Int) < (m:Int):=by omega
              have HR4:Hid (Rotated z m en d d):=by
                rcases Nat.lt_or_ge z m with y | y
                · obtain rfl:en=m:=by omega
                  exact rotated_none_right d
                · obtain rfl:z=m:=by omega
                  exact rotated_none_left d
              rcases z6 with z6 | z6
              all_goals go_wp2
              all_goals
                go_meet
                case rel=>exact ⟨d,HS,HR4,permIn_refl _ _ _,HG⟩
          case rest=>
            obtain ⟨d1,HS5,HR5,HP5,HG5⟩:=hcut
            obtain ⟨W5,rfl⟩:∃ x,x=wc:=⟨_,rfl⟩
            have he:=HEN.out
            have HX:Hid (∀ i j,a≤i→i < mid→mid≤j→j < b→lt d1[j]! d1[i]! = false):=cross_rot hO H1.out H2.out mid en he b1.1 b1.2.1 b1.2.2.1 b1.2.2.2.1 HR5.out HK1.out HK2.out
            have HAR:Hid (Ap q a z mid d1∧Ap q mid en b d1):=ap_rot HAP.out he b1.1 b1.2.1 b1.2.2.1 b1.2.2.2.1 HR5.out
            have HY:Hid (SortedIn lt a z d1∧SortedIn lt z mid d1∧SortedIn lt mid en d1∧SortedIn lt en b d1):=rot_parts H1.out H2.out mid en he b1.1 b1.2.1 b1.2.2.1 b1.2.2.2.1 HR5.out
            have v0:W5.cell? ⟨w.heap.size,0,none⟩=some (.func (.func g) #[] lb):=grown_cell HG5.out (by omega) c0
            have v1:W5.cell? ⟨w.heap.size,1,none⟩=some (.func (.func sf) #[] sb):=grown_cell HG5.out (by omega) c1
            have hs5:=S.size W5 d1 HS5.out
            clear cw0 cw1
            go_upto_if 158 with fail
            all_goals
              go_cut [] from 23 (fun wx=>∃ d2,Hid (St wx d2)∧Hid (SortedIn lt a mid d2)∧Hid (PermIn a mid d1 d2)∧Hid (W0.grownBy wx (some blk)))
              case first=>
                by_cases hr:a < z∧z < mid
                · have z5:(a:Int) < (z:Int):=by omega
                  have z6:(z:Int) < (mid:Int):=by omega
                  first
                  | (exfalso;omega)
                  | (have hc:=IH.out a z mid (by omega) hr.1 hr.2 (by omega) d1 W5 HS5.out HY.out.1 HY.out.2.1 HAR.out.1
                     go_wp2_with fail
                     refine hc.mono ?_
                     rintro e3 w2 ⟨rfl,d2,hs2,hw2,hp2,hg2⟩
                     have HS6:Hid (St w2 d2):=hs2
                     have HR6:Hid (SortedIn lt a mid d2):=hw2
                     have HP6:Hid (PermIn a mid d1 d2):=hp2
                     have HG6:Hid (W0.grownBy w2 (some blk)):=grown_then HG5.out hg2
                     clear hs2 hw2 hp2 hg2 hc
                     go_wp2
                     go_meet
                     case rel=>exact ⟨d2,HS6,HR6,HP6,HG6⟩)
                · have z6:¬ (z:Int) < (mid:Int)∨¬ (a:Int) < (z:Int):=by omega
                  have HR6:Hid (SortedIn lt a mid d1):=by
                    rcases Nat.lt_or_ge a z with y | y
                    · have e1:z=mid:=by omega
                      have:=HY.out.1
                      rw [e1] at this
                      exact this
                    · have e1:z=a:=by omega
                      have:=HY.out.2.1
                      rw [e1] at this
                      exact this
                  rcases z6 with z6 | z6
                  all_goals go_wp2
                  all_goals
                    go_meet
                    case rel=>exact ⟨d1,HS5,HR6,permIn_refl _ _ _,HG5⟩
              case rest=>
                obtain ⟨d2,HS6,HR6,HP6,HG6⟩:=hcut
                obtain ⟨W6,rfl⟩:∃ x,x=wc:=⟨_,rfl⟩
                have HX2:Hid (∀ i j,a≤i→i < mid→mid≤j→j < b→lt d2[j]! d2[i]! = false):=cross_perm (by omega) (by omega) HX.out HP6.out
                have HY3:Hid (SortedIn lt mid en d2):=sorted_out HY.out.2.2.1 HP6.out (Or.inr (Nat.le_refl _))
                have HY4:Hid (SortedIn lt en b d2):=sorted_out HY.out.2.2.2 HP6.out (Or.inr (by omega))
                have y0:W6.cell? ⟨w.heap.size,0,none⟩=some (.func (.func g) #[] lb):=grown_cell HG6.out (by omega) c0
                have y1:W6.cell? ⟨w.heap.size,1,none⟩=some (.func (.func sf) #[] sb):=grown_cell HG6.out (by omega) c1
                have hs6:=S.size W6 d2 HS6.out
                have HQ:Hid (PermIn a b d d2):=permIn_trans _ _ _ _ _ HP5.out (permIn_mono _ _ _ _ _ _ (by omega) (by omega) (by omega) HP6.out)
                clear v0 v1
                go_upto_if 171 with fail
                all_goals
                  by_cases hr:mid < en∧en < b
                  · have z5:(mid:Int) < (en:Int):=by omega
                    have z6:(en:Int) < (b:Int):=by omega
                    first
                    | (exfalso;omega)
                    | (have hc:=IH.out mid en b (by omega) hr.1 hr.2 (by omega) d2 W6 HS6.out HY3.out HY4.out (ap_out HAR.out.2 HP6.out (Or.inr (Nat.le_refl _)))
                       go_wp2_with fail
                       refine hc.mono ?_
                       rintro e3 w2 ⟨rfl,d3,hs2,hw2,hp2,hg2⟩
                       go_wp2
                       go_end0
                       exact ⟨rfl,d3,hs2,sorted_join (sorted_out HR6.out hp2 (Or.inl (Nat.le_refl _))) hw2 (cross_perm2 (by omega) HX2.out hp2),permIn_trans _ _ _ _ _ HQ.out (permIn_mono _ _ _ _ _ _ (by omega) (by omega) (by omega) hp2),grown_then (grown_then (grown_below hB0) HG6.out) hg2⟩)
                  · have z6:¬ (en:Int) < (b:Int)∨¬ (mid:Int) < (en:Int):=by omega
                    have HR7:Hid (SortedIn lt mid b d2):=by
                      rcases Nat.lt_or_ge mid en with y | y
                      · have e1:en=b:=by omega
                        have:=HY3.out
                        rw [e1] at this
                        exact this
                      · have e1:en=mid:=by omega
                        have:=HY4.out
                        rw [e1] at this
                        exact this
                    rcases z6 with z6 | z6
                    all_goals go_wp2
                    all_goals
                      go_end0
                      exact ⟨rfl,d2,HS6.out,sorted_join HR6.out HR7.out HX2.out,HQ.out,grown_then (grown_below hB0) HG6.out⟩
theorem sb_sym_any (S:SortsQ lt q g lb sf sb blk N St) (hO:SWO lt) (hN:N≤1000000):∀ (k a m b:Nat),b - a=k→a < m→m < b→b≤N→∀ d w,St w d→SortedIn lt a m d→SortedIn lt m b d→Ap q a m b d→Calls Tryz.prog 169 #[dV g lb sf sb,.int .i64 a,.int .i64 m,.int .i64 b] w (Merges lt St blk a b d w):=by
  intro k
  induction k using Nat.strongRecOn with
  | ind k ih=>
    intro a m b hk h1 h2 h3 d w h hs1 hs2 hap
    by_cases e1:m=a + 1
    · subst e1
      exact sb_merge_one_right S hO d w h a _ b rfl h2 h3 hN hs2 hap
    · by_cases e2:b=m + 1
      · exact sb_merge_one_left S hO d w h a m b e2 (by omega) h3 hN hs1 hap
      · exact sb_sym_step S hO hN a m b (by omega) (by omega) h3 (fun a' m' b' hl x1 x2 x3=>ih (b' - a') (by omega) a' m' b' rfl x1 x2 x3) d w h hs1 hs2 hap
end
end Go.Proofs.YtdkhohlhdiekmaaGreatDoor
namespace Go.Proofs.YtdkhohlhdiekmaaGreatDoor
open Go.RowKit
open Go.Sort hiding Below
open Go.Shelf
variable {α:Type} [Inhabited α]
section
variable {lt:α→α→Bool}
variable {g:Nat} {lb:Array Value} {sf:Nat} {sb:Array Value} {blk N:Nat} {St:World→Array α→Prop}
set_option maxRecDepth 20000 in
set_option maxHeartbeats 8000000 in
theorem stable_any (S:Sorts lt g lb sf sb blk N St) (hO:SWO lt) (hN:N≤1000000) (d:Array α) (w:World) (h:St w d) :
  Calls Tryz.prog 123 #[dV g lb sf sb,.int .i64 N] w (Merges lt St blk 0 N d w):=by
 have hbl:=S.blt w d h
 have hsz:=S.size w d h
 have hins:=fun W e (x y:Nat) (hs:St W e) (hx:x≤y) (hy:y≤N)=>insertion_any S hO e W hs x y hx hy hN
 have hsym:=fun W e (x y z:Nat) (hs:St W e) (hx:x < y) (hy:y < z) (hz:z≤N) (s1:SortedIn lt x y e) (s2:SortedIn lt y z e)=>sym_any S hO hN (z - x) x y z rfl hx hy hz e W hs s1 s2
 unfold dV at hins hsym ⊢
 obtain ⟨W0,hW0⟩:∃ W,W=w.alloc (.cells #[.func (.func g) #[] lb,.func (.func sf) #[] sb] 205):=⟨_,rfl⟩
 have hB0:Below w.heap.size w W0:=by rw [hW0];exact (Below.refl _ _).alloc (Nat.le_refl _) _
 have c0:W0.cell? ⟨w.heap.size,0,none⟩=some (.func (.func g) #[] lb):=by rw [hW0];simp
 have c1:W0.cell? ⟨w.heap.size,1,none⟩=some (.func (.func sf) #[] sb):=by rw [hW0];simp
 have HS0:Hid (St W0 d):=S.below _ _ _ h hB0
 have HW0:Hid (W0=_):=hW0
 have HI:Hid _:=hins
 have HM:Hid _:=hsym
 clear hW0 hins hsym
 go_enter Tryz.func123,Tryz.ntmps123
 go_wp2
 rw [← HW0.out]
 go_loopw [5,6] (fun i j wr=>∃ (a:Nat) (e:Array α),a≤N∧i = .int .i64 a∧j = .int .i64 (a + 20:Nat)∧Hid (St wr e)∧Hid (Fst lt a e)∧Hid (PermIn 0 N d e)∧Hid (W0.grownBy wr (some blk))) (fun i j _=>1000001 - (intOf i).toNat)
 case atStart=>exact ⟨0,d,Nat.zero_le _,rfl,rfl,HS0,fst_start d,permIn_refl _ _ _,grown_refl _ _⟩
 case round=>
  obtain ⟨a,e,ha,rfl,rfl,HS,HF,HP,HG⟩:=hrel
  have cw0:wr.cell? ⟨w.heap.size,0,none⟩=some (.func (.func g) #[] lb):=grown_cell HG.out (by omega) c0
  have cw1:wr.cell? ⟨w.heap.size,1,none⟩=some (.func (.func sf) #[] sb):=grown_cell HG.out (by omega) c1
  have hes:=S.size wr e HS.out
  by_cases hb:a + 20≤N
  ·have z1:(a:Int) + 20≤(N:Int):=by omega
   have hc:=HI.out wr e a (a + 20) HS.out (by omega) hb
   rw [show ((a + 20:Nat):Int)=(a:Int) + 20 from rfl] at hc
   go_wp2_with fail
   refine hc.mono ?_
   rintro e3 w2 ⟨rfl,d2,hs2,hw2,hp2,hg2⟩
   have HS2:Hid (St w2 d2):=hs2
   have HF2:Hid (Fst lt (a + 20) d2):=fst_step HF.out hw2 hp2
   have HP2:Hid (PermIn 0 N d d2):=permIn_trans _ _ _ _ _ HP.out (permIn_mono _ _ _ _ _ _ (by omega) (by omega) (by omega) hp2)
   have HG2:Hid (W0.grownBy w2 (some blk)):=grown_then HG.out hg2
   clear hs2 hw2 hp2 hg2 hc
   go_wp2
   go_roundw
   case rel=>exact ⟨a + 20,d2,hb,by go_num,by go_num,HS2,HF2,HP2,HG2⟩
   case measure=>simp [intOf];omega
  ·have z1:¬ (a:Int) + 20≤(N:Int):=by omega
   have hc:=HI.out wr e a N HS.out ha (Nat.le_refl _)
   go_wp2_with fail
   refine hc.mono ?_
   rintro e3 w2 ⟨rfl,d2,hs2,hw2,hp2,hg2⟩
   have HS2:Hid (St w2 d2):=hs2
   have HF2:Hid (Blk lt 20 N d2):=fst_end HF.out ha (by omega) hw2 hp2
   have HP2:Hid (PermIn 0 N d d2):=permIn_trans _ _ _ _ _ HP.out (permIn_mono _ _ _ _ _ _ (by omega) (by omega) (by omega) hp2)
   have HG2:Hid (W0.grownBy w2 (some blk)):=grown_then HG.out hg2
   clear hs2 hw2 hp2 hg2 hc cw0 cw1
   go_wp2
   go_loopw [4,5,6,7] (fun i4 i5 i6 i7 wr=>∃ (B:Nat) (e:Array α),0 < B∧B≤2000000∧i4 = .int .i64 B∧Hid (St wr e)∧Hid (Blk lt B N e)∧Hid (PermIn 0 N d e)∧Hid (W0.grownBy wr (some blk))) (fun i _ _ _ _=>2000001 - (intOf i).toNat)
   case atStart=>exact ⟨20,d2,by omega,by omega,rfl,HS2,HF2,HP2,HG2⟩
   case round=>
    clear HS2 HF2 HP2 HG2 HS HF HP HG hes
    obtain ⟨B,e2,hB,hB2,rfl,HS,HF,HP,HG⟩:=hrel
    by_cases hb3:B < N
    ·have z2:(B:Int) < (N:Int):=by omega
     obtain ⟨W1,rfl⟩:∃ x,x=wr:=⟨_,rfl⟩
     have e2B:Hid ((2:Int) * (B:Int)=((2 * B:Nat):Int)):=(by omega:(2:Int) * (B:Int)=((2 * B:Nat):Int))
     go_wp2
     go_loopw [5,6] (fun i j wr=>∃ (a:Nat) (e:Array α),a≤N∧i = .int .i64 a∧j = .int .i64 ((a:Int) + 2 * (B:Int))∧Hid (St wr e)∧Hid (Mrg lt B N a e)∧Hid (PermIn 0 N d e)∧Hid (W0.grownBy wr (some blk))) (fun i j _=>1000001 - (intOf i).toNat)
     case atStart=>exact ⟨0,e2,Nat.zero_le _,rfl,by congr 1 <;> omega,HS,mrg_start hB HF.out,HP,HG⟩
     case round=>
      clear HS HF HP HG
      obtain ⟨a,e3,ha,rfl,rfl,HS,HF,HP,HG⟩:=hrel
      have cw0:wr.cell? ⟨w.heap.size,0,none⟩=some (.func (.func g) #[] lb):=grown_cell HG.out (by omega) c0
      have cw1:wr.cell? ⟨w.heap.size,1,none⟩=some (.func (.func sf) #[] sb):=grown_cell HG.out (by omega) c1
      have hes:=S.size wr e3 HS.out
      have HH:Hid _:=mrg_here HF.out
      by_cases hb4:a + 2 * B≤N
      ·have z3:(a:Int) + 2 * (B:Int)≤(N:Int):=by omega
       have hh:=HH.out
       rw [Nat.min_eq_left (by omega),Nat.min_eq_left (by omega)] at hh
       have hc:=HM.out wr e3 a (a + B) (a + 2 * B) HS.out (by omega) (by omega) hb4 hh.1 hh.2
       rw [show ((a + B:Nat):Int)=(a:Int) + B by omega,show ((a + 2 * B:Nat):Int)=(a:Int) + 2 * (B:Int) by omega] at hc
       clear hh
       go_wp2_with fail
       refine hc.mono ?_
       rintro e4 w2 ⟨rfl,d2,hs2,hw2,hp2,hg2⟩
       have HS2:Hid (St w2 d2):=hs2
       have HF2:Hid (Mrg lt B N (a + 2 * B) d2):=mrg_step HF.out hw2 hp2
       have HP2:Hid (PermIn 0 N d d2):=permIn_trans _ _ _ _ _ HP.out (permIn_mono _ _ _ _ _ _ (by omega) (by omega) (by omega) hp2)
       have HG2:Hid (W0.grownBy w2 (some blk)):=grown_then HG.out hg2
       clear hs2 hw2 hp2 hg2 hc
       go_wp2
       go_roundw
       case rel=>exact ⟨a + 2 * B,d2,hb4,by congr 1 <;> omega,by congr 1 <;> omega,HS2,HF2,HP2,HG2⟩
       case measure=>simp [intOf];omega
      ·have z3:¬ (a:Int) + 2 * (B:Int)≤(N:Int):=by omega
       by_cases hm:a + B < N
       ·have z4:(a:Int) + (B:Int) < (N:Int):=by omega
        have hh:=HH.out
        rw [Nat.min_eq_left (by omega),Nat.min_eq_right (by omega)] at hh
        have hc:=HM.out wr e3 a (a + B) N HS.out (by omega) hm (Nat.le_refl _) hh.1 hh.2
        rw [show ((a + B:Nat):Int)=(a:Int) + B by omega] at hc
        clear hh
        go_wp2_with fail
        refine hc.mono ?_
        rintro e4 w2 ⟨rfl,d2,hs2,hw2,hp2,hg2⟩
        have HS2:Hid (St w2 d2):=hs2
        have HF2:Hid (Blk lt (2 * B) N d2):=mrg_end HF.out ha (by omega) hw2 hp2
        have HP2:Hid (PermIn 0 N d d2):=permIn_trans _ _ _ _ _ HP.out (permIn_mono _ _ _ _ _ _ (by omega) (by omega) (by omega) hp2)
        have HG2:Hid (W0.grownBy w2 (some blk)):=grown_then HG.out hg2
        clear hs2 hw2 hp2 hg2 hc
        go_wp2
        go_roundw
        case rel=>exact ⟨2 * B,d2,by omega,by omega,by congr 1 <;> omega,HS2,HF2,HP2,HG2⟩
        case measure=>simp [intOf];omega
       ·have z4:¬ (a:Int) + (B:Int) < (N:Int):=by omega
        have HF2:Hid (Blk lt (2 * B) N e3):=by
         have hh:=HH.out.1
         rw [Nat.min_eq_right (by omega)] at hh
         exact mrg_end HF.out ha (by omega) hh (permIn_refl _ _ _)
        go_wp2
        go_roundw
        case rel=>exact ⟨2 * B,e3,by omega,by omega,by congr 1 <;> omega,HS,HF2,HP,HG⟩
        case measure=>simp [intOf];omega
    ·have z2:¬ (B:Int) < (N:Int):=by omega
     have hfin:SortedIn lt 0 N e2:=by
      have:=HF.out 0 0 (by omega)
      rwa [Nat.min_eq_right (by omega)] at this
     have HFIN:Hid (SortedIn lt 0 N e2):=hfin
     clear hfin
     go_wp2
     go_end0
     exact ⟨rfl,e2,HS.out,HFIN.out,HP.out,grown_then (grown_below hB0) HG.out⟩
end
end Go.Proofs.YtdkhohlhdiekmaaGreatDoor
namespace Go.Proofs.YtdkhohlhdiekmaaGreatDoor
open Go.RowKit
open Go.Sort hiding Below
open Go.Shelf
variable {α:Type} [Inhabited α]
section
variable {lt:α→α→Bool} {q:α→α→Prop}
variable {g:Nat} {lb:Array Value} {sf:Nat} {sb:Array Value} {blk N:Nat} {St:World→Array α→Prop}
set_option maxRecDepth 20000 in
set_option maxHeartbeats 8000000 in
theorem sb_stable_any (S:SortsQ lt q g lb sf sb blk N St) (hO:SWO lt) (hN:N≤1000000) (d:Array α) (w:World) (h:St w d) (hq:∀ s t,s < t→t < N→q d[t]! d[s]!) :
  Calls Tryz.prog 123 #[dV g lb sf sb,.int .i64 N] w (Merges lt St blk 0 N d w):=by
 have hbl:=S.blt w d h
 have hsz:=S.size w d h
 have hins:=fun W e (x y:Nat) (hs:St W e) (hx:x≤y) (hy:y≤N) (hqq:∀ s t,x≤s→s < t→t < y→q e[t]! e[s]!)=>sb_insertion_any S hO e W hs x y hx hy hN hqq
 have hsym:=fun W e (x y z:Nat) (hs:St W e) (hx:x < y) (hy:y < z) (hz:z≤N) (s1:SortedIn lt x y e) (s2:SortedIn lt y z e) (s3:Ap q x y z e)=>sb_sym_any S hO hN (z - x) x y z rfl hx hy hz e W hs s1 s2 s3
 unfold dV at hins hsym ⊢
 obtain ⟨W0,hW0⟩:∃ W,W=w.alloc (.cells #[.func (.func g) #[] lb,.func (.func sf) #[] sb] 205):=⟨_,rfl⟩
 have hB0:Below w.heap.size w W0:=by rw [hW0];exact (Below.refl _ _).alloc (Nat.le_refl _) _
 have c0:W0.cell? ⟨w.heap.size,0,none⟩=some (.func (.func g) #[] lb):=by rw [hW0];simp
 have c1:W0.cell? ⟨w.heap.size,1,none⟩=some (.func (.func sf) #[] sb):=by rw [hW0];simp
 have HS0:Hid (St W0 d):=S.below _ _ _ h hB0
 have HW0:Hid (W0=_):=hW0
 have HI:Hid _:=hins
 have HM:Hid _:=hsym
 have HQ:Hid (∀ s t,s < t→t < N→q d[t]! d[s]!):=hq
 clear hW0 hins hsym hq
 go_enter Tryz.func123,Tryz.ntmps123
 go_wp2
 rw [← HW0.out]
 go_loopw [5,6] (fun i j wr=>∃ (a:Nat) (e:Array α),a≤N∧i = .int .i64 a∧j = .int .i64 (a + 20:Nat)∧Hid (St wr e)∧Hid (Fst lt a e)∧Hid (CrB q N 20 e∧∀ t,a≤t→e[t]! = d[t]!)∧Hid (PermIn 0 N d e)∧Hid (W0.grownBy wr (some blk))) (fun i j _=>1000001 - (intOf i).toNat)
 case atStart=>exact ⟨0,d,Nat.zero_le _,rfl,rfl,HS0,fst_start d,⟨fun j x _ s t h1 h2 h3=>HQ.out s t (by omega) h3,fun t _=>rfl⟩,permIn_refl _ _ _,grown_refl _ _⟩
 case round=>
  obtain ⟨a,e,ha,rfl,rfl,HS,HF,HC,HP,HG⟩:=hrel
  have HQ2:Hid (∀ b,b≤N→∀ s t,a≤s→s < t→t < b→q e[t]! e[s]!):=fun b hb s t h1 h2 h3=>by rw [HC.out.2 t (by omega),HC.out.2 s h1];exact HQ.out s t h2 (by omega)
  have cw0:wr.cell? ⟨w.heap.size,0,none⟩=some (.func (.func g) #[] lb):=grown_cell HG.out (by omega) c0
  have cw1:wr.cell? ⟨w.heap.size,1,none⟩=some (.func (.func sf) #[] sb):=grown_cell HG.out (by omega) c1
  have hes:=S.size wr e HS.out
  by_cases hb:a + 20≤N
  ·have z1:(a:Int) + 20≤(N:Int):=by omega
   have hc:=HI.out wr e a (a + 20) HS.out (by omega) hb (HQ2.out _ hb)
   rw [show ((a + 20:Nat):Int)=(a:Int) + 20 from rfl] at hc
   go_wp2_with fail
   refine hc.mono ?_
   rintro e3 w2 ⟨rfl,d2,hs2,hw2,hp2,hg2⟩
   have HS2:Hid (St w2 d2):=hs2
   have HF2:Hid (Fst lt (a + 20) d2):=fst_step HF.out hw2 hp2
   have HC2:Hid (CrB q N 20 d2∧∀ t,a + 20≤t→d2[t]! = d[t]!):=⟨fun j x hx=>cr_keep (HC.out.1 j x hx) hp2 hb (by omega) (by obtain ⟨⟨k,hk⟩,_⟩:=HF.out;omega),fun t ht=>by rw [hp2.2.1 t (Or.inr ht)];exact HC.out.2 t (by omega)⟩
   have HP2:Hid (PermIn 0 N d d2):=permIn_trans _ _ _ _ _ HP.out (permIn_mono _ _ _ _ _ _ (by omega) (by omega) (by omega) hp2)
   have HG2:Hid (W0.grownBy w2 (some blk)):=grown_then HG.out hg2
   clear hs2 hw2 hp2 hg2 hc
   go_wp2
   go_roundw
   case rel=>exact ⟨a + 20,d2,hb,by go_num,by go_num,HS2,HF2,HC2,HP2,HG2⟩
   case measure=>simp [intOf];omega
  ·have z1:¬ (a:Int) + 20≤(N:Int):=by omega
   have hc:=HI.out wr e a N HS.out ha (Nat.le_refl _) (HQ2.out _ (Nat.le_refl _))
   go_wp2_with fail
   refine hc.mono ?_
   rintro e3 w2 ⟨rfl,d2,hs2,hw2,hp2,hg2⟩
   have HS2:Hid (St w2 d2):=hs2
   have HF2:Hid (Blk lt 20 N d2):=fst_end HF.out ha (by omega) hw2 hp2
   have HC2:Hid (CrB q N 20 d2):=fun j x hx=>by
    by_cases hxa:x≤a
    ·exact cr_keep (HC.out.1 j x hx) hp2 (Nat.le_refl _) (by omega) (Or.inl hxa)
    ·obtain ⟨⟨k,hk⟩,_⟩:=HF.out
     exact fun s t _ h2 h3=>by omega
   have HP2:Hid (PermIn 0 N d d2):=permIn_trans _ _ _ _ _ HP.out (permIn_mono _ _ _ _ _ _ (by omega) (by omega) (by omega) hp2)
   have HG2:Hid (W0.grownBy w2 (some blk)):=grown_then HG.out hg2
   clear hs2 hw2 hp2 hg2 hc cw0 cw1
   go_wp2
   go_loopw [4,5,6,7] (fun i4 i5 i6 i7 wr=>∃ (B:Nat) (e:Array α),0 < B∧B≤2000000∧i4 = .int .i64 B∧Hid (St wr e)∧Hid (Blk lt B N e)∧Hid (CrB q N B e)∧Hid (PermIn 0 N d e)∧Hid (W0.grownBy wr (some blk))) (fun i _ _ _ _=>2000001 - (intOf i).toNat)
   case atStart=>exact ⟨20,d2,by omega,by omega,rfl,HS2,HF2,HC2,HP2,HG2⟩
   case round=>
    clear HS2 HF2 HC2 HP2 HG2 HS HF HC HQ2 HP HG hes
    obtain ⟨B,e2,hB,hB2,rfl,HS,HF,HC,HP,HG⟩:=hrel
    by_cases hb3:B < N
    ·have z2:(B:Int) < (N:Int):=by omega
     obtain ⟨W1,rfl⟩:∃ x,x=wr:=⟨_,rfl⟩
     have e2B:Hid ((2:Int) * (B:Int)=((2 * B:Nat):Int)):=(by omega:(2:Int) * (B:Int)=((2 * B:Nat):Int))
     go_wp2
     go_loopw [5,6] (fun i j wr=>∃ (a:Nat) (e:Array α),a≤N∧i = .int .i64 a∧j = .int .i64 ((a:Int) + 2 * (B:Int))∧Hid (St wr e)∧Hid (Mrg lt B N a e)∧Hid (CrM q N B a e)∧Hid (PermIn 0 N d e)∧Hid (W0.grownBy wr (some blk))) (fun i j _=>1000001 - (intOf i).toNat)
     case atStart=>exact ⟨0,e2,Nat.zero_le _,rfl,by congr 1 <;> omega,HS,mrg_start hB HF.out,crm_start HC.out,HP,HG⟩
     case round=>
      clear HS HF HC HP HG
      obtain ⟨a,e3,ha,rfl,rfl,HS,HF,HC,HP,HG⟩:=hrel
      have cw0:wr.cell? ⟨w.heap.size,0,none⟩=some (.func (.func g) #[] lb):=grown_cell HG.out (by omega) c0
      have cw1:wr.cell? ⟨w.heap.size,1,none⟩=some (.func (.func sf) #[] sb):=grown_cell HG.out (by omega) c1
      have hes:=S.size wr e3 HS.out
      have HH:Hid _:=mrg_here HF.out
      by_cases hb4:a + 2 * B≤N
      ·have z3:(a:Int) + 2 * (B:Int)≤(N:Int):=by omega
       have hh:=HH.out
       rw [Nat.min_eq_left (by omega),Nat.min_eq_left (by omega)] at hh
       have hc:=HM.out wr e3 a (a + B) (a + 2 * B) HS.out (by omega) (by omega) hb4 hh.1 hh.2 (crm_ap HC.out HF.out hb4)
       rw [show ((a + B:Nat):Int)=(a:Int) + B by omega,show ((a + 2 * B:Nat):Int)=(a:Int) + 2 * (B:Int) by omega] at hc
       clear hh
       go_wp2_with fail
       refine hc.mono ?_
       rintro e4 w2 ⟨rfl,d2,hs2,hw2,hp2,hg2⟩
       have HS2:Hid (St w2 d2):=hs2
       have HF2:Hid (Mrg lt B N (a + 2 * B) d2):=mrg_step HF.out hw2 hp2
       have HC2:Hid (CrM q N B (a + 2 * B) d2):=crm_step HC.out HF.out (by omega) hb4 hp2
       have HP2:Hid (PermIn 0 N d d2):=permIn_trans _ _ _ _ _ HP.out (permIn_mono _ _ _ _ _ _ (by omega) (by omega) (by omega) hp2)
       have HG2:Hid (W0.grownBy w2 (some blk)):=grown_then HG.out hg2
       clear hs2 hw2 hp2 hg2 hc
       go_wp2
       go_roundw
       case rel=>exact ⟨a + 2 * B,d2,hb4,by congr 1 <;> omega,by congr 1 <;> omega,HS2,HF2,HC2,HP2,HG2⟩
       case measure=>simp [intOf];omega
      ·have z3:¬ (a:Int) + 2 * (B:Int)≤(N:Int):=by omega
       by_cases hm:a + B < N
       ·have z4:(a:Int) + (B:Int) < (N:Int):=by omega
        have hh:=HH.out
        rw [Nat.min_eq_left (by omega),Nat.min_eq_right (by omega)] at hh
        have hc:=HM.out wr e3 a (a + B) N HS.out (by omega) hm (Nat.le_refl _) hh.1 hh.2 (crm_ap HC.out HF.out (Nat.le_refl _))
        rw [show ((a + B:Nat):Int)=(a:Int) + B by omega] at hc
        clear hh
        go_wp2_with fail
        refine hc.mono ?_
        rintro e4 w2 ⟨rfl,d2,hs2,hw2,hp2,hg2⟩
        have HS2:Hid (St w2 d2):=hs2
        have HF2:Hid (Blk lt (2 * B) N d2):=mrg_end HF.out ha (by omega) hw2 hp2
        have HC2:Hid (CrB q N (2 * B) d2):=crm_end HC.out HF.out (by omega) (by omega) hp2
        have HP2:Hid (PermIn 0 N d d2):=permIn_trans _ _ _ _ _ HP.out (permIn_mono _ _ _ _ _ _ (by omega) (by omega) (by omega) hp2)
        have HG2:Hid (W0.grownBy w2 (some blk)):=grown_then HG.out hg2
        clear hs2 hw2 hp2 hg2 hc
        go_wp2
        go_roundw
        case rel=>exact ⟨2 * B,d2,by omega,by omega,by congr 1 <;> omega,HS2,HF2,HC2,HP2,HG2⟩
        case measure=>simp [intOf];omega
       ·have z4:¬ (a:Int) + (B:Int) < (N:Int):=by omega
        have HF2:Hid (Blk lt (2 * B) N e3):=by
         have hh:=HH.out.1
         rw [Nat.min_eq_right (by omega)] at hh
         exact mrg_end HF.out ha (by omega) hh (permIn_refl _ _ _)
        go_wp2
        go_roundw
        case rel=>exact ⟨2 * B,e3,by omega,by omega,by congr 1 <;> omega,HS,HF2,HC.out.1,HP,HG⟩
        case measure=>simp [intOf];omega
    ·have z2:¬ (B:Int) < (N:Int):=by omega
     have hfin:SortedIn lt 0 N e2:=by
      have:=HF.out 0 0 (by omega)
      rwa [Nat.min_eq_right (by omega)] at this
     have HFIN:Hid (SortedIn lt 0 N e2):=hfin
     clear hfin
     go_wp2
     go_end0
     exact ⟨rfl,e2,HS.out,HFIN.out,HP.out,grown_then (grown_below hB0) HG.out⟩
end
end Go.Proofs.YtdkhohlhdiekmaaGreatDoor
