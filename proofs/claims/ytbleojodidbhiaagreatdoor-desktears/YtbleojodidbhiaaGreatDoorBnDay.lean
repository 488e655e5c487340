/-  -/
namespace Go.Proofs.YtbleojodidbhiaaGreatDoor
def lpy (y:Int):Int:=if y % 4=0∧(y % 100 ≠ 0∨y % 400=0) then 1 else 0
def mlen (y m:Int):Int:=if m=2 then 28 + lpy y else if m=4∨m=6∨m=9∨m=11 then 30 else 31
def lps (y:Int):Int:=y / 4 - y / 100 + y / 400
def yfd (y:Int):Int:=(y - 1900) * 365 + lps (y - 1) - 460
def cumN (y:Int):Nat→Int
 | 0=>0
 | k + 1=>cumN y k + mlen y (k + 1)
def ky (k:Nat):Int:=1900 + ((k / 12:Nat):Int)
def km (k:Nat):Int:=((k % 12:Nat):Int) + 1
def klen (k:Nat):Int:=mlen (ky k) (km k)
def kfd:Nat→Int
 | 0=>0
 | k + 1=>kfd k + klen k
def IsDay (n:Int) (k:Nat) (d:Int):Prop:=1≤d∧d≤klen k∧kfd k + d - 1=n
theorem lpy_bd (y:Int):0≤lpy y∧lpy y≤1:=by unfold lpy;split <;> omega
theorem mlen_bd (y m:Int):28≤mlen y m∧mlen y m≤31:=by
 have:=lpy_bd y
 unfold mlen;split
 ·omega
 ·split <;> omega
theorem klen_bd (k:Nat):28≤klen k∧klen k≤31:=mlen_bd _ _
theorem lps_step (y:Int):lps y=lps (y - 1) + lpy y:=by
 unfold lps lpy;split <;> omega
theorem cum12 (y:Int):cumN y 12=365 + lpy y:=by simp [cumN,mlen];omega
theorem cumN_nn (y:Int):∀ k:Nat,0≤cumN y k∧cumN y k≤31 * k
 | 0=>by simp [cumN]
 | k + 1=>by have:=cumN_nn y k;have:=mlen_bd y (k + 1);simp only [cumN];omega
theorem yfd_step (y:Int):yfd (y + 1)=yfd y + cumN y 12:=by
 have:=lps_step y
 rw [cum12];unfold yfd
 have e:y + 1 - 1=y:=by omega
 rw [e];omega
theorem kfd_eq:∀ k:Nat,kfd k=yfd (ky k) + cumN (ky k) (k % 12)
 | 0=>by decide
 | k + 1=>by
  have ih:=kfd_eq k
  simp only [kfd]
  rw [ih]
  by_cases h:k % 12=11
  ·have e1:ky (k + 1)=ky k + 1:=by unfold ky;omega
   have e2:(k + 1) % 12=0:=by omega
   rw [e1,e2,yfd_step]
   have e3:klen k=mlen (ky k) 12:=by unfold klen km;rw [h];rfl
   rw [h,e3]
   simp only [cumN];simp;omega
  ·have e1:ky (k + 1)=ky k:=by unfold ky;omega
   have e2:(k + 1) % 12=k % 12 + 1:=by omega
   rw [e1,e2]
   simp only [cumN,klen,km];omega
theorem kfd_lt (a:Nat):∀ b:Nat,a < b→kfd a + klen a≤kfd b
 | 0,h=>by omega
 | b + 1,h=>by
  simp only [kfd]
  by_cases e:a=b
  ·subst e;omega
  ·have:=kfd_lt a b (by omega);have:=klen_bd b;omega
theorem kfd_nn (k:Nat):0≤kfd k:=by
 cases k with
 | zero=>simp [kfd]
 | succ k=>have:=kfd_lt 0 (k + 1) (by omega);have:=klen_bd 0;simp [kfd] at *;omega
theorem kfd_low:∀ k:Nat,28 * (k:Int)≤kfd k
 | 0=>by simp [kfd]
 | k + 1=>by have:=kfd_low k;have:=klen_bd k;simp only [kfd];omega
theorem isDay_uniq {n:Int} {k k':Nat} {d d':Int} (h:IsDay n k d) (h':IsDay n k' d'):k=k'∧d=d':=by
 obtain ⟨a,b,c⟩:=h
 obtain ⟨a',b',c'⟩:=h'
 rcases Nat.lt_trichotomy k k' with l | rfl | l
 ·have:=kfd_lt k k' l;omega
 ·omega
 ·have:=kfd_lt k' k l;omega
theorem isDay_mono {n n':Int} {k k':Nat} {d d':Int} (h:IsDay n k d) (h':IsDay n' k' d') (hn:n≤n'):k≤k':=by
 obtain ⟨a,b,c⟩:=h
 obtain ⟨a',b',c'⟩:=h'
 apply Nat.le_of_not_lt
 intro l
 have:=kfd_lt k' k l;omega
theorem isDay_next {n:Int} {k:Nat} {d:Int} (h:IsDay n k d):(d < klen k∧IsDay (n + 1) k (d + 1))∨(d=klen k∧IsDay (n + 1) (k + 1) 1):=by
 obtain ⟨a,b,c⟩:=h
 have:=klen_bd (k + 1)
 by_cases e:d < klen k
 ·left;exact ⟨e,by omega,by omega,by omega⟩
 ·right;refine ⟨by omega,by omega,by omega,?_⟩
  simp only [kfd];omega
theorem isDay_last (k:Nat):IsDay (kfd k + klen k - 1) k (klen k):=by
 have:=klen_bd k
 exact ⟨by omega,by omega,by omega⟩
def mk (y m:Int):Nat:=(12 * (y - 1900) + m - 1).toNat
theorem mk_ky {y m:Int} (hy:1900≤y) (h1:1≤m) (h2:m≤12):ky (mk y m)=y:=by unfold ky mk;omega
theorem mk_km {y m:Int} (hy:1900≤y) (h1:1≤m) (h2:m≤12):km (mk y m)=m:=by unfold km mk;omega
theorem ky_ge (k:Nat):1900≤ky k:=by unfold ky;omega
theorem km_bd (k:Nat):1≤km k∧km k≤12:=by unfold km;omega
theorem mk_of (k:Nat):mk (ky k) (km k)=k:=by unfold mk ky km;omega
def fst (y m:Int):Int:=yfd y + cumN y (m - 1).toNat
theorem fst_mk {y m:Int} (hy:1900≤y) (h1:1≤m) (h2:m≤12):fst y m=kfd (mk y m):=by
 rw [kfd_eq,mk_ky hy h1 h2]
 have e:mk y m % 12=(m - 1).toNat:=by unfold mk;omega
 rw [e];rfl
theorem fst_k (k:Nat):fst (ky k) (km k)=kfd k:=by
 have:=fst_mk (ky_ge k) (km_bd k).1 (km_bd k).2
 rw [this,mk_of]
theorem yfd_fst (y:Int):fst y 1=yfd y:=by simp [fst,cumN]
theorem yfd_low {y:Int} (hy:1900≤y):(y - 1900) * 365≤yfd y∧yfd y≤(y - 1900) * 366:=by
 unfold yfd lps;omega
def kdF:Nat→Nat→Int→Nat × Int
 | 0,k,n=>(k,n + 1)
 | f + 1,k,n=>if n < klen k then (k,n + 1) else kdF f (k + 1) (n - klen k)
theorem kdF_is:∀ (f k:Nat) (n:Int),0≤n→n < 28 * f→IsDay (kfd k + n) (kdF f k n).1 (kdF f k n).2
 | 0,_,_,h,h'=>by omega
 | f + 1,k,n,h,h'=>by
  unfold kdF
  by_cases c:n < klen k
  ·rw [if_pos c];exact ⟨by show 1≤n + 1;omega,by show n + 1≤klen k;omega,by show kfd k + (n + 1) - 1=_;omega⟩
  ·rw [if_neg c]
   have hb:=klen_bd k
   have:=kdF_is f (k + 1) (n - klen k) (by omega) (by omega)
   have e:kfd (k + 1) + (n - klen k)=kfd k + n:=by simp only [kfd];omega
   rw [e] at this;exact this
def dK (n:Int):Nat:=(kdF (n.toNat + 1) 0 n).1
def dD (n:Int):Int:=(kdF (n.toNat + 1) 0 n).2
theorem is_day (n:Int) (h:0≤n):IsDay n (dK n) (dD n):=by
 have:=kdF_is (n.toNat + 1) 0 n h (by omega)
 have e:kfd 0 + n=n:=by simp [kfd]
 rw [e] at this;exact this
theorem of_isDay {n:Int} {k:Nat} {d:Int} (h:IsDay n k d):dK n=k∧dD n=d:=by
 have:=kfd_nn k
 exact isDay_uniq (is_day n (by obtain ⟨a,b,c⟩:=h;omega)) h
theorem day_nn {n:Int} {k:Nat} {d:Int} (h:IsDay n k d):0≤n:=by
 have:=kfd_nn k
 obtain ⟨a,b,c⟩:=h;omega
theorem kfd_3285:kfd 3285=99985:=by rw [kfd_eq];decide
theorem kfd_3286:kfd 3286=100016:=by rw [kfd_eq];decide
theorem dK_le {n:Int} (h:0≤n) (h':n≤99999):dK n≤3285:=by
 obtain ⟨a,b,c⟩:=is_day n h
 apply Nat.le_of_not_lt
 intro l
 have h2:=kfd_3286
 by_cases e:dK n=3286
 ·rw [e] at c;omega
 ·have:=kfd_lt 3286 (dK n) (by omega);have:=klen_bd 3286;omega
def tw (n:Int):List Int:=[48 + n / 10,48 + n % 10]
def dtx (y m d:Int):List Int:=tw (y / 100) ++ (tw (y % 100) ++ (45 :: (tw m ++ (45 :: tw d))))
def DT (n:Int):List Int:=dtx (ky (dK n)) (km (dK n)) (dD n)
def bts (l:List Int):List UInt8:=l.map fun n=>UInt8.ofNat n.toNat
def dval1 (n:Int) (c:UInt8):Int:=n * 10 + (c.toNat:Int) - 48
def dval (l:List UInt8):Int:=l.foldl dval1 0
theorem dval_snoc (l:List UInt8) (c:UInt8):dval (l ++ [c])=dval1 (dval l) c:=by simp [dval]
theorem dval_bd:∀ (m:Nat) (l:List UInt8),l.length=m → -(300 * 11 ^ m:Int)≤dval l∧dval l≤300 * 11 ^ m
 | 0,l,h=>by
  have:l=[]:=List.eq_nil_of_length_eq_zero h
  subst this;simp [dval]
 | m + 1,l,h=>by
  obtain ⟨l',c,rfl⟩:∃ l' c,l=l' ++ [c]:=by
   rcases List.eq_nil_or_concat l with rfl | ⟨l',c,rfl⟩
   ·simp at h
   ·exact ⟨l',c,by simp⟩
  have ih:=dval_bd m l' (by simpa using h)
  have hc:c.toNat < 256:=c.toNat_lt
  have hp:(1:Int)≤11 ^ m:=by
   have:0 < (11:Nat) ^ m:=Nat.pow_pos (by omega)
   exact_mod_cast this
  rw [dval_snoc,Int.pow_succ];unfold dval1
  omega
theorem dval_bd4 (l:List UInt8) (h:l.length≤4) : -5000000≤dval l∧dval l≤5000000:=by
 have h1:=dval_bd l.length l rfl
 have h2:(11:Int) ^ l.length≤11 ^ 4:=by
  have:(11:Nat) ^ l.length≤11 ^ 4:=Nat.pow_le_pow_right (by omega) h
  exact_mod_cast this
 have h3:(11:Int) ^ 4=14641:=by decide
 omega
theorem byte_val (n:Int) (h:0≤n) (h':n < 256):((UInt8.ofNat n.toNat).toNat:Int)=n:=by
 rw [UInt8.toNat_ofNat'];omega
theorem dval_tw (n:Int) (h:0≤n) (h':n < 100):dval (bts (tw n))=n:=by
 have e1:=byte_val (48 + n / 10) (by omega) (by omega)
 have e2:=byte_val (48 + n % 10) (by omega) (by omega)
 simp only [dval,bts,tw,List.map,List.foldl,dval1]
 rw [e1,e2];omega
theorem dval_tw2 (n:Int) (h:0≤n) (h':n < 10000):dval (bts (tw (n / 100) ++ tw (n % 100)))=n:=by
 have e1:=byte_val (48 + n / 100 / 10) (by omega) (by omega)
 have e2:=byte_val (48 + n / 100 % 10) (by omega) (by omega)
 have e3:=byte_val (48 + n % 100 / 10) (by omega) (by omega)
 have e4:=byte_val (48 + n % 100 % 10) (by omega) (by omega)
 simp only [dval,bts,tw,List.map,List.foldl,dval1,List.cons_append,List.nil_append]
 rw [e1,e2,e3,e4];omega
def ofDay (y m d:Int):Option Int:=
 if 1900≤y∧y≤2200∧1≤m∧m≤12∧1≤d∧d≤mlen y m∧fst y m + d - 1≤99999 then some (fst y m + d - 1) else none
theorem ofDay_some {y m d n:Int} (h:ofDay y m d=some n):1900≤y∧y≤2200∧1≤m∧m≤12∧1≤d∧d≤mlen y m∧n=fst y m + d - 1∧0≤n∧n≤99999∧IsDay n (mk y m) d:=by
 unfold ofDay at h
 split at h
 ·rename_i hh
  obtain ⟨a,b,c,e,f,g,i⟩:=hh
  simp at h
  subst h
  have hd:IsDay (fst y m + d - 1) (mk y m) d:=by
   refine ⟨f,?_,?_⟩
   ·unfold klen;rw [mk_ky a c e,mk_km a c e];exact g
   ·rw [fst_mk a c e]
  exact ⟨a,b,c,e,f,g,rfl,day_nn hd,i,hd⟩
 ·simp at h
theorem ofDay_is {n:Int} (h:0≤n) (h':n≤99999):ofDay (ky (dK n)) (km (dK n)) (dD n)=some n:=by
 have hd:=is_day n h
 have hk:=dK_le h h'
 have hm:=km_bd (dK n)
 obtain ⟨a,b,c⟩:=hd
 have e:fst (ky (dK n)) (km (dK n)) + dD n - 1=n:=by rw [fst_k];exact c
 unfold ofDay
 rw [if_pos ⟨ky_ge _,by unfold ky;omega,hm.1,hm.2,a,b,by rw [e];exact h'⟩,e]
def dparsed (l:List UInt8):Option Int:=
 if l.length=10 then
  (ofDay (dval (l.take 4)) (dval ((l.drop 5).take 2)) (dval (l.drop 8))).bind fun n=>if bts (DT n)=l then some n else none
 else none
theorem dparsed_some {l:List UInt8} {n:Int} (h:dparsed l=some n):l.length=10∧0≤n∧n≤99999∧bts (DT n)=l∧ofDay (dval (l.take 4)) (dval ((l.drop 5).take 2)) (dval (l.drop 8))=some n:=by
 unfold dparsed at h
 split at h
 ·rename_i hl
  rcases ho:ofDay (dval (l.take 4)) (dval ((l.drop 5).take 2)) (dval (l.drop 8)) with _ | k
  ·rw [ho] at h;simp at h
  ·rw [ho] at h
   simp only [Option.bind] at h
   split at h
   ·rename_i hb
    simp at h;subst h
    have:=ofDay_some ho
    exact ⟨hl,this.2.2.2.2.2.2.2.1,this.2.2.2.2.2.2.2.2.1,hb,rfl⟩
   ·simp at h
 ·simp at h
theorem dD_bd {n:Int} (h:0≤n):1≤dD n∧dD n≤31:=by
 obtain ⟨a,b,c⟩:=is_day n h
 have:=klen_bd (dK n);omega
theorem dparsed_DT {n:Int} (h:0≤n) (h':n≤99999):dparsed (bts (DT n))=some n:=by
 have hk:=dK_le h h'
 have hy:1900≤ky (dK n)∧ky (dK n)≤2200:=⟨ky_ge _,by unfold ky;omega⟩
 have hm:=km_bd (dK n)
 have hd:=dD_bd h
 have e1:dval ((bts (DT n)).take 4)=ky (dK n):=dval_tw2 _ (by omega) (by omega)
 have e2:dval (((bts (DT n)).drop 5).take 2)=km (dK n):=dval_tw _ (by omega) (by omega)
 have e3:dval ((bts (DT n)).drop 8)=dD n:=dval_tw _ (by omega) (by omega)
 unfold dparsed
 rw [if_pos (show (bts (DT n)).length=10 from rfl),e1,e2,e3,ofDay_is h h']
 simp
theorem dparsed_none {l:List UInt8} (h:dparsed l=none):∀ n,0≤n→n≤99999→bts (DT n) ≠ l:=by
 intro n h0 h1 e
 rw [← e,dparsed_DT h0 h1] at h
 simp at h
theorem of_2000:ofDay 2000 2 29=some 36583:=by decide
theorem dK_36583:dK 36583=1201∧dD 36583=29:=of_isDay (ofDay_some of_2000).2.2.2.2.2.2.2.2.2
theorem dparsed_2000:dparsed [50,48,48,48,45,48,50,45,50,57]=some 36583:=by
 have e:bts (DT 36583)=[50,48,48,48,45,48,50,45,50,57]:=by
  unfold DT;rw [dK_36583.1,dK_36583.2];decide
 rw [← e];exact dparsed_DT (by omega) (by omega)
theorem dparsed_1900:dparsed [49,57,48,48,45,48,50,45,50,57]=none:=by
 have e1:ofDay (dval (List.take 4 [49,57,48,48,45,48,50,45,50,57])) (dval ((List.drop 5 [49,57,48,48,45,48,50,45,50,57]).take 2)) (dval (List.drop 8 [49,57,48,48,45,48,50,45,50,57]))=none:=by decide
 unfold dparsed
 rw [if_pos (by decide),e1];rfl
theorem next_day {n:Int} (h:0≤n) :
  (ky (dK (n + 1))=ky (dK n)∧km (dK (n + 1))=km (dK n)∧dD (n + 1)=dD n + 1)
  ∨ (dD (n + 1)=1∧28≤dD n∧km (dK (n + 1))=km (dK n) % 12 + 1∧(km (dK n) < 12∧ky (dK (n + 1))=ky (dK n)∨km (dK n)=12∧ky (dK (n + 1))=ky (dK n) + 1)):=by
 have hk:=klen_bd (dK n)
 rcases isDay_next (is_day n h) with ⟨_,b⟩ | ⟨a,b⟩
 ·obtain ⟨e1,e2⟩:=of_isDay b
  left;rw [e1,e2];exact ⟨rfl,rfl,rfl⟩
 ·obtain ⟨e1,e2⟩:=of_isDay b
  right;rw [e1,e2]
  refine ⟨rfl,by omega,by unfold km;omega,?_⟩
  unfold km ky;omega
theorem last_day {k:Nat} (h:k≤3284):0≤kfd k + klen k - 1∧kfd k + klen k - 1≤99984∧dK (kfd k + klen k - 1)=k∧dK (kfd k + klen k - 1 + 1)=k + 1:=by
 have hl:=isDay_last k
 have h0:=day_nn hl
 have h1:=kfd_lt k 3285 (by omega)
 rw [kfd_3285] at h1
 refine ⟨h0,by omega,(of_isDay hl).1,?_⟩
 rcases isDay_next hl with ⟨a,_⟩ | ⟨_,b⟩
 ·omega
 ·exact (of_isDay b).1
theorem dK_mono {a b:Int} (h:0≤a) (h':a≤b):dK a≤dK b:=isDay_mono (is_day a h) (is_day b (by omega)) h'
end Go.Proofs.YtbleojodidbhiaaGreatDoor
