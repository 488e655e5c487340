/-  -/
import Derived.Test.YtbleojodidbhiaaGreatDoorBnCs
import Derived.Deep.DeepCutAuto
namespace Go.Proofs.YtbleojodidbhiaaGreatDoor
open Go.RowKit
open Go.Sort hiding Below
open Go.Shelf Go.Lib
section
variable {w0:World} {blk off n:Nat} {g:Nat} {cb:Array Value}
set_option maxRecDepth 20000 in
set_option maxHeartbeats 8000000 in
theorem cs_sym_step (h0:Cs0 w0 blk off n) (eg:∀ args w,(callFunc g args).run Tryz.prog w = .ok (.enter g args) w) (hcmp:CmpG Tryz.prog g cb) (cap:Nat) (hN:n≤1000000) (a m b:Nat) (h1:a + 1 < m) (h2:m + 1 < b) (h3:b≤n)
    (ih:∀ a' m' b',b' - a' < b - a→a' < m'→m' < b'→b'≤n→∀ d w,Cs w0 blk off n w d→SortedIn ltP a' m' d→SortedIn ltP m' b' d→Ap qP a' m' b' d→Calls Tryz.prog 283 #[.slice (some ⟨blk,off,none⟩) n cap,.int .i64 a',.int .i64 m',.int .i64 b',.func (.func g) #[] cb] w (MergesC w0 blk off n a' b' d))
    (d:Array EvN) (w:World) (h:Cs w0 blk off n w d) (hs1:SortedIn ltP a m d) (hs2:SortedIn ltP m b d) (hap:Ap qP a m b d) :
    Calls Tryz.prog 283 #[.slice (some ⟨blk,off,none⟩) n cap,.int .i64 a,.int .i64 m,.int .i64 b,.func (.func g) #[] cb] w (MergesC w0 blk off n a b d):=by
  have hsz:=h.size
  have hrot:=fun W e (x y z:Nat) (hs:Cs w0 blk off n W e) (hx:x < y) (hy:y < z) (hz:z≤n)=>cs_rotate (g:=g) (cb:=cb) csP rfl h0 e W hs cap x y z hx hy hz hN
  have HS0:Hid (Cs w0 blk off n w d):=h
  have H1:Hid (SortedIn ltP a m d):=hs1
  have H2:Hid (SortedIn ltP m b d):=hs2
  have HAP:Hid (Ap qP a m b d):=hap
  have IH:Hid _:=ih
  have HROT:Hid _:=hrot
  have HC:Hid (CmpG Tryz.prog g cb):=hcmp
  clear hcmp
  clear hs1 hs2 ih hrot hap
  clear h
  have mixed:=csP.mixed
  go_enter Tryz.func283,Tryz.ntmps283
  have z0:¬ (m:Int) - (a:Int)=1:=by omega
  have z0b:((m:Int) - (a:Int) == 1)=false:=by simpa using z0
  have z3:¬ (b:Int) - (m:Int)=1:=by omega
  have z3b:((b:Int) - (m:Int) == 1)=false:=by simpa using z3
  obtain ⟨mid,hmid⟩:∃ x,x=(a + b) / 2:=⟨_,rfl⟩
  have em:((a:Int) + (b:Int)) / 2=(mid:Int):=by omega
  obtain ⟨s0,r0,hsr⟩:∃ s0 r0:Nat,(mid < m∧s0 + b=mid + m∧r0=mid)∨(m≤mid∧s0=a∧r0=m):=by
    rcases Nat.lt_or_ge mid m with h4 | h4
    · exact ⟨mid + m - b,mid,Or.inl ⟨h4,by omega,rfl⟩⟩
    · exact ⟨a,m,Or.inr ⟨h4,rfl,rfl⟩⟩
  have HSR:Hid ((mid < m∧s0 + b=mid + m∧r0=mid)∨(m≤mid∧s0=a∧r0=m)):=hsr
  have HMID:Hid (mid=(a + b) / 2):=hmid
  clear hsr hmid
  go_upto_if 140 with fail
  go_cut [20,21] from 25 (fun s18 s19 wx=>wx=w∧s18 = .int .i64 s0∧s19 = .int .i64 r0)
  case first=>
    rcases HSR.out with ⟨x1,x2,x3⟩ | ⟨x1,x2,x3⟩
    · have z4:(mid:Int) < (m:Int):=by omega
      go_wp2
      go_meet
      case rel=>exact ⟨rfl,congrArg (Value.int .i64) (by omega),congrArg (Value.int .i64) (by omega)⟩
    · have z4:¬ (mid:Int) < (m:Int):=by omega
      go_wp2
      go_meet
      case rel=>exact ⟨rfl,congrArg (Value.int .i64) (by omega),congrArg (Value.int .i64) (by omega)⟩
  case rest=>
    obtain ⟨hw,rfl,rfl⟩:=hcut
    subst wc
    have b0:Hid (a≤s0∧s0≤r0∧r0≤m∧r0≤mid∧mid + m≤s0 + b):=by have:=HSR.out;have:=HMID.out;exact (by omega:a≤s0∧s0≤r0∧r0≤m∧r0≤mid∧mid + m≤s0 + b)
    go_wp2
    go_loopw [20,21] (fun i j wr=>∃ (p z:Nat),s0≤p∧p≤z∧z≤r0∧i = .int .i64 p∧j = .int .i64 z∧Hid (s0 < p→ltP d[mid + m - p]! d[p - 1]! = false)∧Hid (z < r0→ltP d[mid + m - 1 - z]! d[z]! = true)∧Hid (Cs w0 blk off n wr d)) (fun i j _=>(intOf j).toNat - (intOf i).toNat)
    case atStart=>exact ⟨s0,r0,Nat.le_refl _,b0.out.2.1,Nat.le_refl _,rfl,rfl,fun h=>absurd h (Nat.lt_irrefl _),fun h=>absurd h (Nat.lt_irrefl _),HS0⟩
    case round=>
      obtain ⟨p,z,hp,hpq,hqb,rfl,rfl,K1,K2,HS⟩:=hrel
      have bb:=b0.out
      by_cases hlt:p < z
      · obtain ⟨x,hx⟩:∃ x,x=(p + z) / 2:=⟨_,rfl⟩
        obtain ⟨y,hy⟩:∃ y,y=mid + m - 1 - x:=⟨_,rfl⟩
        have ex:((p:Int) + (z:Int)) / 2=(x:Int):=by omega
        have ey:(mid:Int) + (m:Int) - 1 - (x:Int)=(y:Int):=by omega
        have HE:Hid (x=(p + z) / 2∧y + x + 1=mid + m):=⟨hx,by omega⟩
        have hxm:x < m:=by omega
        have hyb:y < b:=by omega
        have HLT:Hid (ltP d[y]! d[x]! = decide (cmpE d[y]!.1 d[x]!.1 < 0)):=cmp_ltP (HAP.out x y (by omega) (by omega) (by omega) (by omega))
        clear hx hy
        have hcg:=fun (n':Nat) (os':Array Obj)=>HC.out d[y]! d[x]! (grow (wr.drewN n') os')
        have fy:=fun (j:Nat) (v:Value) (hv:(evC d[y]!.1)[j]?=some v) (n':Nat) (os':Array Obj)=>(HS.out.grown n' os').cell h0 y j (by omega) v hv
        have fx:=fun (j:Nat) (v:Value) (hv:(evC d[x]!.1)[j]?=some v) (n':Nat) (os':Array Obj)=>(HS.out.grown n' os').cell h0 x j (by omega) v hv
        generalize hcv:cmpE d[y]!.1 d[x]!.1=cv at hcg
        have HLV:Hid (ltP d[y]! d[x]! = decide (cv < 0)):=by rw [← hcv];exact HLT.out
        clear hcv HLT
        unfold encP at hcg
        generalize d[y]!.1=ay at hcg fy
        generalize d[x]!.1=ax at hcg fx
        obtain ⟨i0,i1,i2,i3,i4,i5,i6⟩:=ay
        obtain ⟨k0,k1,k2,k3,k4,k5,k6⟩:=ax
        have y0:=fy 0 _ rfl
        have y1:=fy 1 _ rfl
        have y2:=fy 2 _ rfl
        have y3:=fy 3 _ rfl
        have y4:=fy 4 _ rfl
        have y5:=fy 5 _ rfl
        have y6:=fy 6 _ rfl
        have x0:=fx 0 _ rfl
        have x1:=fx 1 _ rfl
        have x2:=fx 2 _ rfl
        have x3:=fx 3 _ rfl
        have x4:=fx 4 _ rfl
        have x5:=fx 5 _ rfl
        have x6:=fx 6 _ rfl
        clear fy fx
        simp only [Nat.add_zero] at y0 x0
        simp only [evC] at hcg
        have jz:(x:Int) < (n:Int):=by omega
        have jz1:(y:Int) < (n:Int):=by omega
        have hwy:IntKind.i64.wrap (y:Int)=(y:Int):=by rw [IntKind.wrap_i64];omega
        by_cases hlv:cv < 0
        · have hld:decide (cv < 0)=true:=by simpa using hlv
          go_wp2_with fail
          go_quiet_grown (first | (go_at_fn g;refine Calls.grown_of (hcg _ _)))
          clear hwy hcg y0 y1 y2 y3 y4 y5 y6 x0 x1 x2 x3 x4 x5 x6
          go_wp2
          go_roundw
          case rel=>exact ⟨p,x,by omega,by have:=HE.out;omega,by have:=HE.out;omega,rfl,rfl,K1,fun _=>by rw [at_eq d (show mid + m - 1 - x=y by have:=HE.out;omega),HLV.out];simpa using hlv,HS.out.grown nq osq⟩
          case measure=>have:=HE.out;simp [intOf];omega
        · have hld:decide (cv < 0)=false:=by simpa using hlv
          go_wp2_with fail
          go_quiet_grown (first | (go_at_fn g;refine Calls.grown_of (hcg _ _)))
          clear hwy hcg y0 y1 y2 y3 y4 y5 y6 x0 x1 x2 x3 x4 x5 x6
          go_wp2
          go_roundw
          case rel=>exact ⟨x + 1,z,by have:=HE.out;omega,by have:=HE.out;omega,hqb,by go_num,rfl,fun _=>by rw [at_eq d (show mid + m - (x + 1)=y by have:=HE.out;omega),Nat.add_sub_cancel,HLV.out];simpa using hlv,K2,HS.out.grown nq osq⟩
          case measure=>have:=HE.out;simp [intOf];omega
      · obtain rfl:z=p:=by omega
        obtain ⟨en,hen⟩:∃ x,x=mid + m - z:=⟨_,rfl⟩
        have een:(mid:Int) + (m:Int) - (z:Int)=(en:Int):=by omega
        have HEN:Hid (en + z=mid + m):=(by omega:en + z=mid + m)
        clear hen
        have HN:Hid (b≤n):=h3
        have HK1:Hid (a < z→en < b→ltP d[en]! d[z - 1]! = false):=fun x1 x2=>by
          have:=HSR.out;have:=HEN.out
          have e:=K1.out (by omega)
          rwa [at_eq d (show mid + m - z=en by omega)] at e
        have HK2:Hid (z < m→m < en→ltP d[z]! d[en - 1]! = false):=fun x1 x2=>by
          have:=HSR.out;have:=HEN.out
          have e:=K2.out (by omega)
          rw [at_eq d (show mid + m - 1 - z=en - 1 by omega)] at e
          exact swo_asym swo_P e
        have b1:a≤z∧z≤m∧m≤en∧en≤b∧z≤mid∧mid≤en∧a < mid∧mid < b:=by have:=HEN.out;have:=HMID.out;omega
        go_upto_if 185 with fail
        all_goals
          go_cut [] from 25 (fun wx=>∃ d1,Hid (Cs w0 blk off n wx d1)∧Hid (Rotated z m en d d1)∧Hid (PermIn a b d d1))
          case first=>
            as_aux_lemma=>
              by_cases hr:z < m∧m < en
              · have z5:(z:Int) < (m:Int):=by omega
                have z6:(m:Int) < (en:Int):=by omega
                first
                | (exfalso;omega)
                | (have hc:=HROT.out wr d z m en HS.out hr.1 hr.2 (by omega)
                   go_wp2_with fail
                   refine hc.mono ?_
                   rintro e3 w2 ⟨rfl,d2,hs2,hw2,hp2⟩
                   have HS4:Hid (Cs w0 blk off n w2 d2):=hs2
                   have HR4:Hid (Rotated z m en d d2):=hw2
                   have HP4:Hid (PermIn a b d d2):=permIn_mono _ _ _ _ _ _ (by omega) (by omega) (by omega) hp2
                   clear hs2 hw2 hp2 hc
                   go_wp2
                   go_meet
                   case rel=>exact ⟨d2,HS4,HR4,HP4⟩)
              · have z5:¬ ((z:Int) < (m:Int)∧(m:Int) < (en:Int)):=by omega
                have z6:¬ (m:Int) < (en:Int)∨¬ (z:Int) < (m:Int):=by omega
                have HR4:Hid (Rotated z m en d d):=by
                  rcases Nat.lt_or_ge z m with y | y
                  · obtain rfl:en=m:=by omega
                    exact rotated_none_right d
                  · obtain rfl:z=m:=by omega
                    exact rotated_none_left d
                rcases z6 with z6 | z6
                all_goals go_wp2
                all_goals
                  go_meet
                  case rel=>exact ⟨d,HS,HR4,permIn_refl _ _ _⟩
          case rest=>
            as_aux_lemma=>
              obtain ⟨d1,HS5,HR5,HP5⟩:=hcut
              obtain ⟨W5,rfl⟩:∃ x,x=wc:=⟨_,rfl⟩
              have he:=HEN.out
              have HX:Hid (∀ i j,a≤i→i < mid→mid≤j→j < b→ltP d1[j]! d1[i]! = false):=cross_rot swo_P H1.out H2.out mid en he b1.1 b1.2.1 b1.2.2.1 b1.2.2.2.1 HR5.out HK1.out HK2.out
              have HAR:Hid (Ap qP a z mid d1∧Ap qP mid en b d1):=ap_rot HAP.out he b1.1 b1.2.1 b1.2.2.1 b1.2.2.2.1 HR5.out
              have HY:Hid (SortedIn ltP a z d1∧SortedIn ltP z mid d1∧SortedIn ltP mid en d1∧SortedIn ltP en b d1):=rot_parts H1.out H2.out mid en he b1.1 b1.2.1 b1.2.2.1 b1.2.2.2.1 HR5.out
              have hs5:=HS5.out.size
              go_upto_if 199 with fail
              all_goals
                go_cut [] from 25 (fun wx=>∃ d2,Hid (Cs w0 blk off n wx d2)∧Hid (SortedIn ltP a mid d2)∧Hid (PermIn a mid d1 d2))
                case first=>
                  as_aux_lemma=>
                    by_cases hr:a < z∧z < mid
                    · have z5:(a:Int) < (z:Int):=by omega
                      have z6:(z:Int) < (mid:Int):=by omega
                      first
                      | (exfalso;omega)
                      | (have hc:=IH.out a z mid (by omega) hr.1 hr.2 (by omega) d1 W5 HS5.out HY.out.1 HY.out.2.1 HAR.out.1
                         go_wp2_with fail
                         refine hc.mono ?_
                         rintro e3 w2 ⟨rfl,d2,hs2,hw2,hp2⟩
                         have HS6:Hid (Cs w0 blk off n w2 d2):=hs2
                         have HR6:Hid (SortedIn ltP a mid d2):=hw2
                         have HP6:Hid (PermIn a mid d1 d2):=hp2
                         clear hs2 hw2 hp2 hc
                         go_wp2
                         go_meet
                         case rel=>exact ⟨d2,HS6,HR6,HP6⟩)
                    · have z6:¬ (z:Int) < (mid:Int)∨¬ (a:Int) < (z:Int):=by omega
                      have HR6:Hid (SortedIn ltP a mid d1):=by
                        rcases Nat.lt_or_ge a z with y | y
                        · have e1:z=mid:=by omega
                          have:=HY.out.1
                          rw [e1] at this
                          exact this
                        · have e1:z=a:=by omega
                          have:=HY.out.2.1
                          rw [e1] at this
                          exact this
                      rcases z6 with z6 | z6
                      all_goals go_wp2
                      all_goals
                        go_meet
                        case rel=>exact ⟨d1,HS5,HR6,permIn_refl _ _ _⟩
                case rest=>
                  as_aux_lemma=>
                    obtain ⟨d2,HS6,HR6,HP6⟩:=hcut
                    obtain ⟨W6,rfl⟩:∃ x,x=wc:=⟨_,rfl⟩
                    have HX2:Hid (∀ i j,a≤i→i < mid→mid≤j→j < b→ltP d2[j]! d2[i]! = false):=cross_perm (by omega) (by omega) HX.out HP6.out
                    have HY3:Hid (SortedIn ltP mid en d2):=sorted_out HY.out.2.2.1 HP6.out (Or.inr (Nat.le_refl _))
                    have HY4:Hid (SortedIn ltP en b d2):=sorted_out HY.out.2.2.2 HP6.out (Or.inr (by omega))
                    have hs6:=HS6.out.size
                    have HQ:Hid (PermIn a b d d2):=permIn_trans _ _ _ _ _ HP5.out (permIn_mono _ _ _ _ _ _ (by omega) (by omega) (by omega) HP6.out)
                    go_upto_if 213 with fail
                    all_goals
                      by_cases hr:mid < en∧en < b
                      · have z5:(mid:Int) < (en:Int):=by omega
                        have z6:(en:Int) < (b:Int):=by omega
                        first
                        | (exfalso;omega)
                        | (have hc:=IH.out mid en b (by omega) hr.1 hr.2 (by omega) d2 W6 HS6.out HY3.out HY4.out (ap_out HAR.out.2 HP6.out (Or.inr (Nat.le_refl _)))
                           go_wp2_with fail
                           refine hc.mono ?_
                           rintro e3 w2 ⟨rfl,d3,hs2,hw2,hp2⟩
                           go_wp2
                           go_end0
                           exact ⟨rfl,d3,hs2,sorted_join (sorted_out HR6.out hp2 (Or.inl (Nat.le_refl _))) hw2 (cross_perm2 (by omega) HX2.out hp2),permIn_trans _ _ _ _ _ HQ.out (permIn_mono _ _ _ _ _ _ (by omega) (by omega) (by omega) hp2)⟩)
                      · have z6:¬ (en:Int) < (b:Int)∨¬ (mid:Int) < (en:Int):=by omega
                        have HR7:Hid (SortedIn ltP mid b d2):=by
                          rcases Nat.lt_or_ge mid en with y | y
                          · have e1:en=b:=by omega
                            have:=HY3.out
                            rw [e1] at this
                            exact this
                          · have e1:en=mid:=by omega
                            have:=HY4.out
                            rw [e1] at this
                            exact this
                        rcases z6 with z6 | z6
                        all_goals go_wp2
                        all_goals
                          go_end0
                          exact ⟨rfl,d2,HS6.out,sorted_join HR6.out HR7.out HX2.out,HQ.out⟩
theorem cs_sym_any (h0:Cs0 w0 blk off n) (eg:∀ args w,(callFunc g args).run Tryz.prog w = .ok (.enter g args) w) (hcmp:CmpG Tryz.prog g cb) (cap:Nat) (hN:n≤1000000):∀ (k a m b:Nat),b - a=k→a < m→m < b→b≤n→∀ d w,Cs w0 blk off n w d→SortedIn ltP a m d→SortedIn ltP m b d→Ap qP a m b d→Calls Tryz.prog 283 #[.slice (some ⟨blk,off,none⟩) n cap,.int .i64 a,.int .i64 m,.int .i64 b,.func (.func g) #[] cb] w (MergesC w0 blk off n a b d):=by
  intro k
  induction k using Nat.strongRecOn with
  | ind k ih=>
    intro a m b hk h1 h2 h3 d w h hs1 hs2 hap
    by_cases e1:m=a + 1
    · subst e1
      exact cs_merge_one_right csP rfl h0 eg hcmp cap d w h a _ b rfl h2 h3 hN hs2 hap
    · by_cases e2:b=m + 1
      · exact cs_merge_one_left csP rfl h0 eg hcmp cap d w h a m b e2 (by omega) h3 hN hs1 hap
      · exact cs_sym_step h0 eg hcmp cap hN a m b (by omega) (by omega) h3 (fun a' m' b' hl x1 x2 x3=>ih (b' - a') (by omega) a' m' b' rfl x1 x2 x3) d w h hs1 hs2 hap
end
end Go.Proofs.YtbleojodidbhiaaGreatDoor
