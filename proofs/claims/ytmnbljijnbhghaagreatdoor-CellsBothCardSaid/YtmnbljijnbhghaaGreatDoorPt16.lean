/- Contracts that the law leans on: Exr. -/
import Derived.Test.YtmnbljijnbhghaaGreatDoorPt02
import Derived.Test.YtmnbljijnbhghaaGreatDoorPt15
namespace Go.Proofs.YtmnbljijnbhghaaGreatDoor
set_option maxRecDepth 100000
open Go.RowKit
set_option linter.unusedVariables false
def wAt (m:List Int) (i:Nat):Int:=((m.getD (4 * i) 0 * 256 + m.getD (4 * i + 1) 0) * 256 + m.getD (4 * i + 2) 0) * 256 + m.getD (4 * i + 3) 0
theorem Bt5.getD {l:List Int} (h:Bt5 l) (i:Nat):0 ≤ l.getD i 0 ∧ l.getD i 0 ≤ 255:=by
 by_cases hi:i < l.length
 ·rw [List.getD,List.getElem?_eq_getElem hi]; exact h _ (List.getElem_mem hi)
 ·rw [List.getD,List.getElem?_eq_none (by omega)]; decide
theorem zql3 {m:List Int} (h:Bt5 m) (i:Nat):0 ≤ wAt m i ∧ wAt m i ≤ 4294967295:=by
 have h0:=h.getD (4 * i);have h1:=h.getD (4 * i + 1);have h2:=h.getD (4 * i + 2);have h3:=h.getD (4 * i + 3);unfold wAt; omega
theorem Bt5.drop {l:List Int} (h:Bt5 l) (k:Nat):Bt5 (l.drop k):=fun x hx => h x (List.mem_of_mem_drop hx)
def wPart (m:List Int) (i:Nat):Nat → Int
 | 0 => 0
 | k + 1 => wPart m i k * 256 + m.getD (4 * i + k) 0
theorem zqj6 (m:List Int) (i:Nat):wPart m i 4 = wAt m i:=by simp [wPart,wAt]
theorem zqht {m:List Int} (h:Bt5 m) (i:Nat):∀ k,0 ≤ wPart m i k ∧ wPart m i k < 256 ^ k
 | 0 => by simp [wPart]
 | k + 1 => by
  have h1:=zqht h i k;have h2:=h.getD (4 * i + k);rw [wPart,Int.pow_succ]; omega
def bad0 (x:Int):Bool:=decide (63 < x) || (decide (x / 32 = 1) && decide (x / 16 % 2 = 0))
def bad1 (x y:Int):Bool:=decide (69 < y) || (decide (0 < y) && decide (x / 16 % 2 = 0))
def bad2 (x y n:Int):Bool:=decide (70 < n + y) || (decide (0 < n) && decide (x / 16 % 2 = 0)) || (decide (n = 0) && (decide (0 < y) || decide (x / 32 = 1)))
def bodyN (m:List Int) (n:Nat):Nat:=if 0 < n ∧ 4 ≤ m.length ∧ wAt m 0 = 0 then 6 else if m.length < 4 * n then 5 else if 0 < n ∧ wAt m (n - 1) = 0 then 6 else if 4 * n < m.length then 7 else 0
def errN (l:List Int):Nat :=
 if l.length = 0 then 5 else if bad0 (l.getD 0 0) = true then 6 else if l.length = 1 then 5 else if bad1 (l.getD 0 0) (l.getD 1 0) = true then 6
 else if l.length = 2 then 5 else if bad2 (l.getD 0 0) (l.getD 1 0) (l.getD 2 0) = true then 6 else bodyN (l.drop 3) (l.getD 2 0).toNat
def lowN (l:List Int):Nat:=(l.getD 1 0).toNat
def cntN (l:List Int):Nat:=(l.getD 2 0).toNat
def wordsR (l:List Int):List Int:=List.replicate (lowN l) 0 ++ (List.range (cntN l)).map fun i => wAt (l.drop 3) (cntN l - 1 - i)
def readF (l:List Int):Nat:=(l.getD 0 0).toNat % 32
def readB (l:List Int):Bool:=decide (l.getD 0 0 / 32 = 1)
def readT (l:List Int):Int:=signed (readB l) (wv (wordsR l))
theorem zqa2 (l:List Int):(wordsR l).length = lowN l + cntN l:=by simp [wordsR]
theorem zqj7 (l:List Int) {i:Nat} (h:i < lowN l):(wordsR l).getD i 0 = 0:=by
 unfold wordsR;rw [List.getD,List.getElem?_append_left (by simpa using h)]
 simp [h]
theorem zqc9 (l:List Int) {i:Nat} (h:i < cntN l):(wordsR l).getD (lowN l + cntN l - 1 - i) 0 = wAt (l.drop 3) i:=by
 unfold wordsR;rw [List.getD,List.getElem?_append_right (by simp; omega)]
 rw [List.getElem?_map,List.length_replicate,List.getElem?_range (by omega)]
 simp only [Option.map_some,Option.getD_some]
 congr 1; omega
theorem zqdh {l:List Int} (h:Bt5 l):Wd (wordsR l):=by
 intro x hx;unfold wordsR at hx;rw [List.mem_append] at hx;rcases hx with hx | hx
 ·rw [List.mem_replicate] at hx; rw [hx.2]; decide
 ·rw [List.mem_map] at hx;obtain ⟨i,-,rfl⟩:=hx;exact zql3 (h.drop 3) _
theorem zqfq {l:List Int} (h:errN l = 0):3 ≤ l.length ∧ bad0 (l.getD 0 0) = false ∧ bad1 (l.getD 0 0) (l.getD 1 0) = false ∧ bad2 (l.getD 0 0) (l.getD 1 0) (l.getD 2 0) = false ∧ l.length = 3 + 4 * cntN l ∧ (0 < cntN l → wAt (l.drop 3) 0 ≠ 0 ∧ wAt (l.drop 3) (cntN l - 1) ≠ 0):=by
 unfold errN at h
 by_cases h0:l.length = 0
 ·rw [if_pos h0] at h; cases h
 rw [if_neg h0] at h;cases b0:bad0 (l.getD 0 0) with
 | true => rw [b0,if_pos rfl] at h; cases h
 | false =>
  rw [b0,if_neg (by decide)] at h
  by_cases h1:l.length = 1
  ·rw [if_pos h1] at h; cases h
  rw [if_neg h1] at h;cases b1:bad1 (l.getD 0 0) (l.getD 1 0) with
  | true => rw [b1,if_pos rfl] at h; cases h
  | false =>
   rw [b1,if_neg (by decide)] at h
   by_cases h2:l.length = 2
   ·rw [if_pos h2] at h; cases h
   rw [if_neg h2] at h;cases b2:bad2 (l.getD 0 0) (l.getD 1 0) (l.getD 2 0) with
   | true => rw [b2,if_pos rfl] at h; cases h
   | false =>
    rw [b2,if_neg (by decide)] at h
    change bodyN (l.drop 3) (cntN l) = 0 at h
    unfold bodyN at h;have hl:(l.drop 3).length = l.length - 3:=List.length_drop
    by_cases c1:0 < cntN l ∧ 4 ≤ (l.drop 3).length ∧ wAt (l.drop 3) 0 = 0
    ·rw [if_pos c1] at h; cases h
    rw [if_neg c1] at h
    by_cases c2:(l.drop 3).length < 4 * cntN l
    ·rw [if_pos c2] at h; cases h
    rw [if_neg c2] at h
    by_cases c3:0 < cntN l ∧ wAt (l.drop 3) (cntN l - 1) = 0
    ·rw [if_pos c3] at h; cases h
    rw [if_neg c3] at h
    by_cases c4:4 * cntN l < (l.drop 3).length
    ·rw [if_pos c4] at h; cases h
    refine ⟨by omega,rfl,rfl,rfl,by omega,fun hp => ⟨fun e => c1 ⟨hp,by omega,e⟩,fun e => c3 ⟨hp,e⟩⟩⟩
theorem zqv5 {x y n:Int} {lw cn:Nat} (hy:0 ≤ y) (hn:0 ≤ n) (e1:lw = y.toNat) (e2:cn = n.toNat) (h0:bad0 x = false) (h2:bad2 x y n = false) (hx:0 ≤ x) :
  lw + cn ≤ 70 ∧ (cn = 0 → lw = 0 ∧ ¬ x / 32 = 1) ∧ (0 < cn → x / 16 % 2 = 1) ∧ x ≤ 63:=by
 simp only [bad0,bad2,Bool.or_eq_false_iff,Bool.and_eq_false_iff,decide_eq_false_iff_not] at h0 h2;omega
theorem zqdf {l:List Int} (hb:Bt5 l) (h:errN l = 0):lowW (wordsR l) = lowN l ∧ Tidy (wordsR l) ∧ lowN l + cntN l ≤ 70 ∧ (wordsR l = [] ↔ cntN l = 0) ∧ (cntN l = 0 → lowN l = 0 ∧ ¬ l.getD 0 0 / 32 = 1) ∧ (0 < cntN l → l.getD 0 0 / 16 % 2 = 1) ∧ l.getD 0 0 ≤ 63:=by
 obtain ⟨k1,k2,k3,k4,k5,k6⟩:=zqfq h;obtain ⟨m1,m2,m3,m4⟩:=zqv5 (hb.getD 1).1 (hb.getD 2).1 (rfl:lowN l = _) (rfl:cntN l = _) k2 k4 (hb.getD 0).1;have hlen:=zqa2 l;have hE:wordsR l = [] ↔ cntN l = 0:=by rw [← List.length_eq_zero_iff,hlen]; omega
 refine ⟨?_,?_,m1,hE,m2,m3,m4⟩
 ·by_cases hc:cntN l = 0
  ·rw [hE.2 hc,(m2 hc).1]; rfl
  ·refine zqom (fun j hj => zqj7 l hj) ?_
   have:=zqc9 l (i:=cntN l - 1) (by omega)
   rw [show lowN l + cntN l - 1 - (cntN l - 1) = lowN l by omega] at this
   rw [this]; exact (k6 (by omega)).2
 ·by_cases hc:cntN l = 0
  ·exact .inl (hE.2 hc)
  ·refine .inr ?_;rw [hlen];have:=zqc9 l (i:=0) (by omega)
   rw [show lowN l + cntN l - 1 - 0 = lowN l + cntN l - 1 by omega] at this
   rw [this]; exact (k6 (by omega)).1
theorem zqzv {m:List Int} (h:Bt5 m) (i:Nat):b4 (wAt m i) = [m.getD (4 * i) 0,m.getD (4 * i + 1) 0,m.getD (4 * i + 2) 0,m.getD (4 * i + 3) 0]:=by
 have h0:=h.getD (4 * i);have h1:=h.getD (4 * i + 1);have h2:=h.getD (4 * i + 2);have h3:=h.getD (4 * i + 3);unfold b4 wAt;generalize m.getD (4 * i) 0 = a at *;generalize m.getD (4 * i + 1) 0 = b at *;generalize m.getD (4 * i + 2) 0 = c at *;generalize m.getD (4 * i + 3) 0 = d at *
 congr 1
 ·omega
 congr 1
 ·omega
 congr 1
 ·omega
 congr 1
 omega
theorem zqu3 (m:List Int) {k:Nat} (h:4 * k + 4 ≤ m.length):m.take (4 * (k + 1)) = m.take (4 * k) ++ [m.getD (4 * k) 0,m.getD (4 * k + 1) 0,m.getD (4 * k + 2) 0,m.getD (4 * k + 3) 0]:=by
 have e:∀ j,j < m.length → m.take (j + 1) = m.take j ++ [m.getD j 0]:=fun j hj => by
  rw [List.take_succ_eq_append_getElem hj]; simp [List.getD,hj]
 rw [show 4 * (k + 1) = 4 * k + 3 + 1 by omega,e _ (by omega),e _ (by omega),e _ (by omega),e _ (by omega)]
 simp
theorem zql1 {l:List Int} (hb:Bt5 l) (hl:(l.drop 3).length = 4 * cntN l):∀ k,k ≤ cntN l → topB (wordsR l) k = (l.drop 3).take (4 * k)
 | 0,_ => by simp [topB]
 | k + 1,hk => by
  rw [zqck,zql1 hb hl k (by omega),zqu3 _ (by omega),zqa2,zqc9 l (by omega),zqzv (hb.drop 3)]
theorem zqjx {b:Bool} {z:Int} (hz:0 ≤ z) (h0:z = 0 → b = false):decide (signed b z < 0) = b:=by
 cases b
 ·exact decide_eq_false (show ¬ z < 0 by omega)
 ·have:z ≠ 0:=fun e => by have:=h0 e; cases this
  exact decide_eq_true (show -z < 0 by omega)
theorem zqxf {l:List Int} (hb:Bt5 l) (h:errN l = 0):IsEnc (readF l) (readT l) l:=by
 obtain ⟨k1,k2,k3,k4,k5,k6⟩:=zqfq h;obtain ⟨n1,n2,n3,n4,n5,n6,n7⟩:=zqdf hb h;have hwd:=zqdh hb;have hr:=zqas hwd;have hz:wv (wordsR l) = 0 → readB l = false:=fun e => by
  have:=(n5 (n4.1 ((n2.wzero hwd).1 e))).2;unfold readB; simpa using this
 have habs:((readT l).natAbs:Int) = wv (wordsR l):=by unfold readT; cases readB l <;> simp [signed] <;> omega
 have hneg:decide (readT l < 0) = readB l:=zqjx hr.1 hz;refine ⟨wordsR l,hwd,n2,habs.symm,by rw [zqa2]; exact n3,?_⟩
 unfold encB;have h0:=hb.getD 0;have h1:=hb.getD 1;have h2:=hb.getD 2;rw [hneg,n1,zqa2,show lowN l + cntN l - lowN l = cntN l by omega,zql1 hb (by rw [List.length_drop]; omega) _ (Nat.le_refl _),List.take_of_length_le (by rw [List.length_drop]; omega)]
 have e0:((readF l:Nat):Int) + (if readB l = true then 32 else 0) = l.getD 0 0:=by
  unfold readF readB
  by_cases c:l.getD 0 0 / 32 = 1
  ·rw [decide_eq_true c,if_pos rfl]; omega
  ·rw [decide_eq_false c,if_neg (by decide)]; omega
 have e1:((lowN l:Nat):Int) = l.getD 1 0:=by unfold lowN; omega
 have e2:((lowN l + cntN l:Nat):Int) - (lowN l:Nat) = l.getD 2 0:=by unfold cntN; omega
 rw [e0,e1];rw [e1] at e2;rw [e2]
 match l,k1 with
 | a :: b :: c :: t,_ => simp
theorem zqgs {l:List Int} (hb:Bt5 l) (h:errN l = 0):Good (readF l) (readT l) ∧ (readT l).natAbs = (wv (wordsR l)).toNat ∧ decide (readT l < 0) = readB l ∧ 0 ≤ wv (wordsR l):=by
 obtain ⟨k1,k2,k3,k4,k5,k6⟩:=zqfq h;obtain ⟨n1,n2,n3,n4,n5,n6,n7⟩:=zqdf hb h;have hwd:=zqdh hb;have hr:=zqas hwd;have hz:wv (wordsR l) = 0 → readB l = false:=fun e => by
  have:=(n5 (n4.1 ((n2.wzero hwd).1 e))).2;unfold readB; simpa using this
 have habs:(readT l).natAbs = (wv (wordsR l)).toNat:=by unfold readT; cases readB l <;> simp [signed] <;> omega
 have hneg:decide (readT l < 0) = readB l:=zqjx hr.1 hz;refine ⟨⟨by unfold readF; omega,fun hne => ?_,?_⟩,habs,hneg,hr.1⟩
 ·have hc:0 < cntN l:=by
   apply Classical.byContradiction;intro hh;have e:wordsR l = []:=n4.2 (by omega)
   rw [e] at habs;simp [zqn6] at habs;exact hne habs
  have h1:=n6 hc;have h2:=hb.getD 0;unfold readF;have:∀ f:Nat,f < 64 → f / 16 % 2 = 1 → (f % 32).testBit 4 = true:=by decide
  exact this _ (by omega) (by omega)
 ·unfold Fits
  by_cases h0:(readT l).natAbs = 0
  ·rw [h0]; exact Nat.zero_le _
  ·obtain ⟨N,hN⟩:∃ N:Nat,N = 2240:=⟨_,rfl⟩
   have h3:=hr.2;have h4:(4294967296:Int) ^ (wordsR l).length ≤ 4294967296 ^ 70:=zqgp (by rw [zqa2]; omega)
   have h5:(4294967296:Int) ^ 70 = 2 ^ N:=by rw [hN,show (4294967296:Int) = 2 ^ 32 by decide,← Int.pow_mul]
   have h6:(readT l).natAbs < 2 ^ N:=by
    have:(((readT l).natAbs:Nat):Int) < ((2 ^ N:Nat):Int):=by rw [habs]; push_cast; omega
    exact Int.ofNat_lt.1 this
   have:=zqf7 h0 h6;omega
def RowAt5 (l:List Int) (i:Nat) (a:List Int):Prop:=a.length = lowN l + cntN l ∧ (∀ j,j + i < lowN l + cntN l → a.getD j 0 = 0) ∧ ∀ j,j < i → a.getD (lowN l + cntN l - 1 - j) 0 = wAt (l.drop 3) j
theorem RowAt5.start (l:List Int):RowAt5 l 0 (List.replicate (lowN l + cntN l) 0):=by
 refine ⟨by simp,fun j hj => ?_,fun j hj => by omega⟩
 rw [List.getD,List.getElem?_replicate]
 split <;> rfl
theorem zqe4 (a:List Int) (i:Nat) (x:Int) (h:i < a.length):(a.set i x).getD i 0 = x:=by
 rw [List.getD,List.getElem?_set_self h]; rfl
theorem getD_set_ne (a:List Int) {i j:Nat} (x:Int) (h:i ≠ j):(a.set i x).getD j 0 = a.getD j 0:=by
 rw [List.getD,List.getElem?_set_ne h]; rfl
theorem RowAt5.step {l:List Int} {i:Nat} {a:List Int} (h:RowAt5 l i a) (hi:i < cntN l):RowAt5 l (i + 1) (a.set (lowN l + cntN l - 1 - i) (wAt (l.drop 3) i)):=by
 obtain ⟨h1,h2,h3⟩:=h;refine ⟨by simpa using h1,fun j hj => ?_,fun j hj => ?_⟩
 ·rw [getD_set_ne _ _ (by omega)]; exact h2 j (by omega)
 ·by_cases e:j = i
  ·subst e; exact zqe4 _ _ _ (by omega)
  ·rw [getD_set_ne _ _ (by omega)]; exact h3 j (by omega)
theorem RowAt5.stop {l:List Int} {a:List Int} (h:RowAt5 l (cntN l) a):a = wordsR l:=by
 obtain ⟨h1,h2,h3⟩:=h;have hl:=zqa2 l;apply List.ext_getElem (by omega)
 intro j j1 j2;have e1:a[j] = a.getD j 0:=by rw [List.getD,List.getElem?_eq_getElem j1]; rfl
 have e2:(wordsR l)[j] = (wordsR l).getD j 0:=by rw [List.getD,List.getElem?_eq_getElem j2]; rfl
 rw [e1,e2]
 by_cases c:j < lowN l
 ·rw [h2 j (by omega),zqj7 l c]
 ·have k1:=h3 (lowN l + cntN l - 1 - j) (by omega)
  have k2:=zqc9 l (i:=lowN l + cntN l - 1 - j) (by omega)
  rw [show lowN l + cntN l - 1 - (lowN l + cntN l - 1 - j) = j by omega] at k1 k2
  rw [k1,k2]
theorem RowAt5.next {l:List Int} {i:Nat} {a:List Int} (h:RowAt5 l i a) (hi:i < cntN l):a.getD (lowN l + cntN l - 1 - i) 0 = 0:=h.2.1 _ (by omega)
theorem zqp7 {m:List Int} {n k j:Nat} (hk:k < n) (hj:j < 4) (hm:m.length ≤ 4 * k + j) (h0:0 < k → wAt m 0 ≠ 0):bodyN m n = 5:=by
 unfold bodyN;rw [if_neg (fun h => by
  by_cases e:0 < k
  ·exact h0 e h.2.2
  ·omega),if_pos (by omega)]
theorem zqof {m:List Int} {n k:Nat} (hk:k < n) (hm:4 * k + 4 ≤ m.length) (hz:wAt m k = 0) (h:k = 0 ∨ k = n - 1):bodyN m n = 6:=by
 unfold bodyN
 by_cases c:0 < n ∧ 4 ≤ m.length ∧ wAt m 0 = 0
 ·rw [if_pos c]
 ·rw [if_neg c];have hn:k = n - 1:=by
   rcases h with h | h
   ·subst h; exact absurd ⟨hk,by omega,hz⟩ c
   ·exact h
  subst hn;rw [if_neg (by omega),if_pos ⟨by omega,hz⟩]
theorem zqsc {m:List Int} {n:Nat} (h:4 * n < m.length) (h0:0 < n → wAt m 0 ≠ 0 ∧ wAt m (n - 1) ≠ 0):bodyN m n = 7:=by
 unfold bodyN;rw [if_neg (fun c => (h0 c.1).1 c.2.2),if_neg (by omega),if_neg (fun c => (h0 c.1).2 c.2),if_pos h]
theorem zqsb {m:List Int} {n:Nat} (h:m.length = 4 * n) (h0:0 < n → wAt m 0 ≠ 0 ∧ wAt m (n - 1) ≠ 0):bodyN m n = 0:=by
 unfold bodyN;rw [if_neg (fun c => (h0 c.1).1 c.2.2),if_neg (by omega),if_neg (fun c => (h0 c.1).2 c.2),if_neg (by omega)]
set_option maxRecDepth 100000
open Go.RowKit
set_option linter.unusedVariables false
theorem zqyz (x y:Int) (hx:0 ≤ x) (hx2:x < 16777216) (hy:0 ≤ y) (hy2:y ≤ 255):bits .or .u32 (x * 256) y = x * 256 + y:=by
 obtain ⟨a,rfl⟩:=Int.eq_ofNat_of_zero_le hx;obtain ⟨b,rfl⟩:=Int.eq_ofNat_of_zero_le hy;have:=zqw3 a b 8 (by omega) (by omega)
 have e1:((2 ^ 8 * a:Nat):Int) = (a:Int) * 256:=by omega
 have e2:((2 ^ 8 * a + b:Nat):Int) = (a:Int) * 256 + b:=by omega
 rw [e1,e2] at this; exact this
theorem zqhu {m:List Int} (h:Bt5 m) (i k:Nat) (hk:k ≤ 3):0 ≤ wPart m i k ∧ wPart m i k < 16777216:=by
 have h1:=zqht h i k;have h2:(256:Int) ^ k ≤ 16777216:=by
  rcases (by omega:k = 0 ∨ k = 1 ∨ k = 2 ∨ k = 3) with rfl | rfl | rfl | rfl <;> decide
 omega
set_option maxHeartbeats 1000000 in
theorem zql6 (p:Option Addr) (L c:Nat) (m:List Int) (i:Nat) (w:World) (hv:Ints .u8 w (.slice p L c) m) (hb:Bt5 m) (hi:4 * i + 4 ≤ m.length) (hi2:i ≤ 1000) :
  Calls Tryz.prog 188 #[.slice p L c,.int .i64 i] w fun e w' => e = .returned (.int .u32 (wAt m i)) ∧ w = w':=by
 have hL:m.length = L:=by obtain ⟨_,_,e,_⟩:=hv; simp at e; exact e.2.1.symm
 have hcap:L ≤ c:=by obtain ⟨_,_,e,h,_⟩:=hv; simp at e; omega
 have HC:=zh (fun (k:Nat) (hk:k < 4) => hv.cell (i:=4 * i + k) (by omega))
 have HP:=zh (zqhu hb i);have HB:=zh (fun k => hb.getD (4 * i + k))
 have HW:=zh (zqj6 m i);obtain ⟨b,off,rfl,-,-⟩:=hv.cell (i:=4 * i + 0) (by omega)
 have i1:((i:Int) + 1) * 4 ≤ (c:Int):=by omega
 clear hv hb;go_enter Tryz.func188,Tryz.ntmps188;go_wp2_with fail;rw [show (i + 1) * 4 - i * 4 = 4 by omega]
 go_loop [5,16] (fun x j => ∃ k:Nat,k ≤ 4 ∧ j = .int .i64 k ∧ x = .int .u32 (wPart m i k)) (fun _ j => 4 - (intOf j).toNat)
 case atStart => exact ⟨0,by omega,rfl,rfl⟩
 case round =>
  obtain ⟨k,hk,rfl,rfl⟩:=hrel
  by_cases hlt:k < 4
  ·obtain ⟨b',off',hp',-,hc⟩:=HC.out k hlt;simp only [Option.some.injEq,Addr.mk.injEq,and_true] at hp';obtain ⟨rfl,rfl⟩:=hp';rw [show off + (4 * i + k) = off + i * 4 + k by omega] at hc
   have hs:=HP.out k (by omega)
   have hy:=HB.out k;have hn:wPart m i (k + 1) = wPart m i k * 256 + m.getD (4 * i + k) 0:=rfl;have ho:=zqyz _ _ hs.1 hs.2 hy.1 hy.2;have HN:=zh hn;generalize m.getD (4 * i + k) 0 = y at *;generalize wPart m i k = x at *;obtain ⟨x0,x1⟩:=hs;obtain ⟨y0,y1⟩:=hy;clear hn;go_wp2_with fail;go_round
   case rel => exact ⟨k + 1,by omega,by go_num,by rw [HN.out]⟩
   case measure => simp [intOf]; omega
  ·obtain rfl:k = 4:=by omega
   rw [HW.out];go_wp2_with fail;go_ret;exact ⟨rfl,rfl⟩
theorem zqse:∀ X:Nat,X < 256 → ((X &&& 16 = 0 ↔ X / 16 % 2 = 0) ∧ (X &&& 32 = 0 ↔ X / 32 % 2 = 0)):=by decide +kernel
theorem zqp9 {x:Int} (h0:0 ≤ x) (h1:x ≤ 255):∃ A G:Bool,(bits .and .u8 x 16 != 0) = A ∧ (bits .and .u8 x 32 != 0) = G ∧ (A = true ↔ x / 16 % 2 = 1) ∧ (G = true ↔ x / 32 % 2 = 1):=by
 obtain ⟨X,rfl⟩:=Int.eq_ofNat_of_zero_le h0;have hX:X < 256:=by omega
 obtain ⟨b1,b2⟩:=zqse X hX;have e1:=zqfh X 16 hX (by decide)
 have e2:=zqfh X 32 hX (by decide)
 refine ⟨_,_,rfl,rfl,?_,?_⟩
 ·rw [show ((16:Int)) = ((16:Nat):Int) by rfl,e1,bne_iff_ne]
  rw [show ((16:Nat):Int) = 16 by rfl]
  omega
 ·rw [show ((32:Int)) = ((32:Nat):Int) by rfl,e2,bne_iff_ne]
  rw [show ((32:Nat):Int) = 32 by rfl]
  omega
def okHead (L:Nat) (x y n:Int):Prop:=L = 0 ∨ (x ≤ 63 ∧ (x / 32 % 2 = 1 → x / 16 % 2 = 1) ∧ (L = 1 ∨ (y ≤ 69 ∧ (0 < y → x / 16 % 2 = 1) ∧ (L = 2 ∨ ((n = 0 → y = 0 ∧ ¬ x / 32 % 2 = 1) ∧ (0 < n → x / 16 % 2 = 1 ∧ n + y ≤ 70))))))
def HeadP (L:Nat) (x y n:Int) (w:World) (e:Ending) (w':World):Prop:=∃ r:Bool,e = .returned (.bool r) ∧ (r = true ↔ okHead L x y n) ∧ w = w'
theorem zqd5 {L:Nat} {x y n:Int} {w:World} (h:okHead L x y n):HeadP L x y n w (.returned (.bool true)) w:=⟨true,rfl,iff_of_true rfl h,rfl⟩
theorem zqcf {L:Nat} {x y n:Int} {w:World} (h:¬ okHead L x y n):HeadP L x y n w (.returned (.bool false)) w:=⟨false,rfl,iff_of_false (by decide) h,rfl⟩
set_option maxHeartbeats 4000000 in
theorem zqp4 (p:Option Addr) (L c:Nat) (l:List Int) (w:World) (hv:Ints .u8 w (.slice p L c) l) (hb:Bt5 l) :
  Calls Tryz.prog 186 #[.slice p L c] w (HeadP L (l.getD 0 0) (l.getD 1 0) (l.getD 2 0) w):=by
 have hL:l.length = L:=by obtain ⟨_,_,e,_⟩:=hv; simp at e; exact e.2.1.symm
 have hx0:=(hb.getD 0).1;have hx1:=(hb.getD 0).2;have hy0:=(hb.getD 1).1;have hy1:=(hb.getD 1).2;have hn0:=(hb.getD 2).1;have hn1:=(hb.getD 2).2;have HV:=zh hv;obtain ⟨A,G,hA,hG,kA,kG⟩:=zqp9 hx0 hx1
 by_cases h0:L = 0
 ·subst h0;have hR:=zh (zqd5 (w:=w) (show okHead 0 (l.getD 0 0) (l.getD 1 0) (l.getD 2 0) from .inl rfl));clear hv hb hA hG kA kG hx0 hx1 hy0 hn0 hy1 hn1;go_enter Tryz.func186,Tryz.ntmps186;go_wp2_with fail;go_ret;exact hR.out
 obtain ⟨b,off,hp,-,c0⟩:=HV.out.cell (i:=0) (by omega)
 subst hp;rw [Nat.add_zero] at c0;have c1:2 ≤ L → w.cell? ⟨b,off + 1,none⟩ = some (.int .u8 (l.getD 1 0)):=fun h => by
  obtain ⟨b',off',hp',-,c1⟩:=HV.out.cell (i:=1) (by omega)
  simp only [Option.some.injEq,Addr.mk.injEq,and_true] at hp';obtain ⟨rfl,rfl⟩:=hp';exact c1
 have c2:3 ≤ L → w.cell? ⟨b,off + 2,none⟩ = some (.int .u8 (l.getD 2 0)):=fun h => by
  obtain ⟨b',off',hp',-,c1⟩:=HV.out.cell (i:=2) (by omega)
  simp only [Option.some.injEq,Addr.mk.injEq,and_true] at hp';obtain ⟨rfl,rfl⟩:=hp';exact c1
 generalize l.getD 0 0 = x at *;generalize l.getD 1 0 = y at *;generalize l.getD 2 0 = n at *;have hLp:(0:Int) < (L:Int):=by omega
 have hL0:¬ ((L:Int) ≤ 0):=by omega
 clear hv hb hL HV;rcases Int.lt_or_le 63 x with hx | hx
 ·have hR:=zh (zqcf (w:=w) (show ¬ okHead L x y n by unfold okHead; omega))
  clear c1 c2 kA kG;go_enter Tryz.func186,Tryz.ntmps186;go_wp2_with fail;go_ret;exact hR.out
 have hx64:¬ (64:Int) ≤ x:=by omega
 by_cases hng:A = false ∧ G = true
 ·obtain ⟨rfl,rfl⟩:=hng;have a1:¬ x / 16 % 2 = 1:=fun h => by have:=kA.2 h; cases this
  have a2:=kG.1 rfl;have hR:=zh (zqcf (w:=w) (show ¬ okHead L x y n by unfold okHead; omega))
  clear kA kG;go_enter Tryz.func186,Tryz.ntmps186;go_wp2_with fail;go_ret;exact hR.out
 have h16:x / 32 % 2 = 1 → x / 16 % 2 = 1:=fun h => by
  cases A
  ·exact absurd ⟨rfl,kG.2 h⟩ hng
  ·exact kA.1 rfl
 rcases (by omega:L = 1 ∨ 2 ≤ L) with h1 | h1
 ·subst h1;have hR:=zh (zqd5 (w:=w) (show okHead 1 x y n by unfold okHead; omega))
  clear c1 c2 kA kG h16 hLp hL0;cases A <;> cases G
  ·go_enter Tryz.func186,Tryz.ntmps186;go_wp2_with fail;go_ret;exact hR.out
  ·exact absurd ⟨rfl,rfl⟩ hng
  all_goals
   go_enter Tryz.func186,Tryz.ntmps186;go_wp2_with fail;go_ret;exact hR.out
 have c1:=c1 h1;have hL1:(1:Int) < (L:Int):=by omega
 have hL1':¬ (L:Int) ≤ 1:=by omega
 by_cases hy:69 < y
 ·have hR:=zh (zqcf (w:=w) (show ¬ okHead L x y n by unfold okHead; omega))
  have hy':(70:Int) ≤ y:=by omega
  clear c2 kA kG h16;cases A <;> cases G
  ·go_enter Tryz.func186,Tryz.ntmps186;go_wp2_with fail;go_ret;exact hR.out
  ·exact absurd ⟨rfl,rfl⟩ hng
  all_goals
   go_enter Tryz.func186,Tryz.ntmps186;go_wp2_with fail;go_ret;exact hR.out
 have hy':¬ (70:Int) ≤ y:=by omega
 have kA':A = false → ¬ x / 16 % 2 = 1:=fun e h => by have:=kA.2 h; rw [e] at this; cases this
 by_cases hya:0 < y ∧ A = false
 ·obtain ⟨y0,rfl⟩:=hya;have a1:=kA' rfl;have hR:=zh (zqcf (w:=w) (show ¬ okHead L x y n by unfold okHead; omega))
  clear c2 kA kG h16 kA';cases G
  ·go_enter Tryz.func186,Tryz.ntmps186;go_wp2_with fail;go_ret;exact hR.out
  ·exact absurd ⟨rfl,rfl⟩ hng
 have hyA:0 < y → x / 16 % 2 = 1:=fun h => by
  cases A
  ·exact absurd ⟨h,rfl⟩ hya
  ·exact kA.1 rfl
 rcases (by omega:L = 2 ∨ 3 ≤ L) with h2 | h2
 ·subst h2;have hR:=zh (zqd5 (w:=w) (show okHead 2 x y n by unfold okHead; omega))
  clear c2 kA kG h16 kA' hLp hL0 hL1 hL1' h1 h0;rcases (by omega:y = 0 ∨ 0 < y) with rfl | y0
  ·cases A <;> cases G
   ·go_enter Tryz.func186,Tryz.ntmps186;go_wp2_with fail;go_ret;exact hR.out
   ·exact absurd ⟨rfl,rfl⟩ hng
   all_goals
    go_enter Tryz.func186,Tryz.ntmps186;go_wp2_with fail;go_ret;exact hR.out
  ·cases A
   ·exact absurd ⟨y0,rfl⟩ hya
   ·cases G
    all_goals
     go_enter Tryz.func186,Tryz.ntmps186;go_wp2_with fail;go_ret;exact hR.out
 have c2:=c2 h2;have hL2:(2:Int) < (L:Int):=by omega
 have hL2':¬ (L:Int) ≤ 2:=by omega
 rcases (by omega:n = 0 ∨ 0 < n) with rfl | n0
 ·rcases (by omega:y = 0 ∨ 0 < y) with rfl | y0
  ·cases G
   ·have g1:¬ x / 32 % 2 = 1:=fun h => by have:=kG.2 h; cases this
    have hR:=zh (zqd5 (w:=w) (show okHead L x 0 0 by unfold okHead; omega))
    clear kA kG h16 kA';cases A
    all_goals
     go_enter Tryz.func186,Tryz.ntmps186;go_wp2_with fail;go_ret;exact hR.out
   ·have g1:=kG.1 rfl;have hR:=zh (zqcf (w:=w) (show ¬ okHead L x 0 0 by unfold okHead; omega))
    clear kA kG h16 kA';cases A
    ·exact absurd ⟨rfl,rfl⟩ hng
    ·go_enter Tryz.func186,Tryz.ntmps186;go_wp2_with fail;go_ret;exact hR.out
  ·have hR:=zh (zqcf (w:=w) (show ¬ okHead L x y 0 by unfold okHead; omega))
   clear kA kG h16 kA';cases A
   ·exact absurd ⟨y0,rfl⟩ hya
   ·cases G
    all_goals
     go_enter Tryz.func186,Tryz.ntmps186;go_wp2_with fail;go_ret;exact hR.out
 have n0':¬ n = 0:=by omega
 by_cases hs:n + y ≤ 70
 ·cases A
  ·have a1:=kA' rfl;have hR:=zh (zqcf (w:=w) (show ¬ okHead L x y n by unfold okHead; omega))
   obtain rfl:y = 0:=by
    rcases (by omega:y = 0 ∨ 0 < y) with h | h
    ·exact h
    ·exact absurd ⟨h,rfl⟩ hya
   clear kA kG h16 kA';cases G
   ·go_enter Tryz.func186,Tryz.ntmps186;go_wp2_with fail;go_ret;exact hR.out
   ·exact absurd ⟨rfl,rfl⟩ hng
  ·have a1:=kA.1 rfl;have hR:=zh (zqd5 (w:=w) (show okHead L x y n by unfold okHead; omega))
   have hs':y + n ≤ 70:=by omega
   have hs2:n ≤ 70:=by omega
   clear kA kG h16 kA';rcases (by omega:y = 0 ∨ 0 < y) with rfl | y0
   all_goals
    cases G
    all_goals
     go_enter Tryz.func186,Tryz.ntmps186;go_wp2_with fail;go_ret;exact hR.out
 ·have hR:=zh (zqcf (w:=w) (show ¬ okHead L x y n by unfold okHead; omega))
  have hs':¬ y + n ≤ 70:=by omega
  rcases (by omega:y = 0 ∨ 0 < y) with rfl | y0
  ·have hs2:¬ n ≤ 70:=by omega
   clear kA kG h16 kA';cases A <;> cases G
   ·go_enter Tryz.func186,Tryz.ntmps186;go_wp2_with fail;go_ret;exact hR.out
   ·exact absurd ⟨rfl,rfl⟩ hng
   all_goals
    go_enter Tryz.func186,Tryz.ntmps186;go_wp2_with fail;go_ret;exact hR.out
  ·cases A
   ·exact absurd ⟨y0,rfl⟩ hya
   ·clear kA kG h16 kA';cases G
    all_goals
     go_enter Tryz.func186,Tryz.ntmps186;go_wp2_with fail;go_ret;exact hR.out
theorem zqh5 {l:List Int} (hb:Bt5 l):(okHead l.length (l.getD 0 0) (l.getD 1 0) (l.getD 2 0) → errN l = if l.length < 3 then 5 else bodyN (l.drop 3) (cntN l)) ∧ (¬ okHead l.length (l.getD 0 0) (l.getD 1 0) (l.getD 2 0) → errN l = 6):=by
 have hx0:=(hb.getD 0).1;have hx1:=(hb.getD 0).2;have hy0:=(hb.getD 1).1;have hn0:=(hb.getD 2).1;unfold errN;have e0:bad0 (l.getD 0 0) = true ↔ (63 < l.getD 0 0 ∨ (l.getD 0 0 / 32 = 1 ∧ l.getD 0 0 / 16 % 2 = 0)):=by simp [bad0]
 have e1:bad1 (l.getD 0 0) (l.getD 1 0) = true ↔ (69 < l.getD 1 0 ∨ (0 < l.getD 1 0 ∧ l.getD 0 0 / 16 % 2 = 0)):=by simp [bad1]
 have e2:bad2 (l.getD 0 0) (l.getD 1 0) (l.getD 2 0) = true ↔ (70 < l.getD 2 0 + l.getD 1 0 ∨ (0 < l.getD 2 0 ∧ l.getD 0 0 / 16 % 2 = 0) ∨ (l.getD 2 0 = 0 ∧ (0 < l.getD 1 0 ∨ l.getD 0 0 / 32 = 1))):=by simp [bad2,or_assoc]
 generalize bad2 (l.getD 0 0) (l.getD 1 0) (l.getD 2 0) = b2 at *;generalize bad1 (l.getD 0 0) (l.getD 1 0) = b1 at *;generalize bad0 (l.getD 0 0) = b0 at *;rw [show (l.getD 2 0).toNat = cntN l from rfl];generalize bodyN (l.drop 3) (cntN l) = R at *;generalize l.getD 0 0 = x at *;generalize l.getD 1 0 = y at *;generalize l.getD 2 0 = n at *;generalize l.length = L at *;clear hb;unfold okHead
 by_cases q0:L = 0
 ·rw [if_pos q0,if_pos (by omega)]; exact ⟨fun _ => rfl,fun h => absurd (.inl q0) h⟩
 rw [if_neg q0]
 by_cases q1:b0 = true
 ·rw [if_pos q1]; exact ⟨fun h => by have:=e0.1 q1; omega,fun _ => rfl⟩
 rw [if_neg q1];have k0:=mt e0.2 q1
 by_cases q2:L = 1
 ·rw [if_pos q2,if_pos (by omega)]; exact ⟨fun _ => rfl,fun h => by omega⟩
 rw [if_neg q2]
 by_cases q3:b1 = true
 ·rw [if_pos q3]; exact ⟨fun h => by have:=e1.1 q3; omega,fun _ => rfl⟩
 rw [if_neg q3];have k1:=mt e1.2 q3
 by_cases q4:L = 2
 ·rw [if_pos q4,if_pos (by omega)]; exact ⟨fun _ => rfl,fun h => by omega⟩
 rw [if_neg q4]
 by_cases q5:b2 = true
 ·rw [if_pos q5]; exact ⟨fun h => by have:=e2.1 q5; omega,fun _ => rfl⟩
 rw [if_neg q5,if_neg (by omega)]
 have k2:=mt e2.2 q5;exact ⟨fun _ => rfl,fun h => by omega⟩
set_option maxHeartbeats 4000000 in
theorem zqqb (p:Option Addr) (L c:Nat) (m:List Int) (n:Nat) (w:World) (hv:Ints .u8 w (.slice p L c) m) (hb:Bt5 m) (hn:n ≤ 255) :
  Calls Tryz.prog 187 #[.slice p L c,.int .i64 n] w fun e w' => e = .returned (.int .i64 (bodyN m n)) ∧ w = w':=by
 have hL:m.length = L:=by obtain ⟨_,_,e,_⟩:=hv; simp at e; exact e.2.1.symm
 have HW:=zh (fun i (hi:4 * i + 4 ≤ m.length) (h2:i ≤ 1000) => zql6 p L c m i w hv hb hi h2)
 unfold bodyN;rw [hL] at HW ⊢;clear hv hb hL;rcases (by omega:n = 0 ∨ 0 < n) with rfl | n0
 ·rw [if_neg (by omega),if_neg (by omega),if_neg (by omega)]
  rcases (by omega:L = 0 ∨ 0 < L) with rfl | h
  ·rw [if_neg (by omega)]
   go_enter Tryz.func187,Tryz.ntmps187;go_wp2_with fail;go_ret;exact ⟨rfl,rfl⟩
  ·rw [if_pos (by omega)]
   have h':(0:Int) < (L:Int):=by omega
   have h2:¬ (L:Int) < 0:=by omega
   go_enter Tryz.func187,Tryz.ntmps187;go_wp2_with fail;go_ret;exact ⟨rfl,rfl⟩
 have n0':(0:Int) < (n:Int):=by omega
 have hn':(n:Int) ≤ 255:=by omega
 have w1:IntKind.i64.wrap ((n:Int) * 4) = (n:Int) * 4:=IntWalk.i64_in _ (by omega)
 obtain ⟨k,hk⟩:∃ k,n - 1 = k:=⟨_,rfl⟩
 have w2:IntKind.i64.wrap ((n:Int) - 1) = (k:Int):=by rw [IntWalk.i64_in _ (by omega)]; omega
 by_cases hL4:L < 4
 ·rw [if_neg (by omega),if_pos (by omega)]
  have h1:(L:Int) < 4:=by omega
  have h2:(L:Int) < (n:Int) * 4:=by omega
  go_enter Tryz.func187,Tryz.ntmps187;go_wp2_with fail;go_ret;exact ⟨rfl,rfl⟩
 have h1:(4:Int) ≤ (L:Int):=by omega
 have HA:=zh (show Calls Tryz.prog 188 #[.slice p L c,.int .i64 0] w fun e w' => e = .returned (.int .u32 (wAt m 0)) ∧ w = w' from HW.out 0 (by omega) (by omega))
 by_cases hz:wAt m 0 = 0
 ·rw [if_pos ⟨n0,by omega,hz⟩]
  rw [hz] at HA;clear HW;go_enter Tryz.func187,Tryz.ntmps187;go_wp2_with fail;refine (HA.out).mono ?_; rintro e w' ⟨rfl,rfl⟩;go_wp2_with fail;go_ret;exact ⟨rfl,rfl⟩
 rw [if_neg (fun h => hz h.2.2)]
 generalize wAt m 0 = z at *
 by_cases hs:L < 4 * n
 ·rw [if_pos hs];have h2:(L:Int) < (n:Int) * 4:=by omega
  clear HW;go_enter Tryz.func187,Tryz.ntmps187;go_wp2_with fail;refine (HA.out).mono ?_; rintro e w' ⟨rfl,rfl⟩;go_wp2_with fail;go_ret;exact ⟨rfl,rfl⟩
 rw [if_neg hs];have h2:¬ (L:Int) < (n:Int) * 4:=by omega
 have HB:=zh (HW.out k (by omega) (by omega))
 rw [hk]
 by_cases hy:wAt m k = 0
 ·rw [if_pos ⟨n0,hy⟩];rw [hy] at HB;clear HW;go_enter Tryz.func187,Tryz.ntmps187;go_wp2_with fail;refine (HA.out).mono ?_; rintro e w' ⟨rfl,rfl⟩;go_wp2_with fail;refine (HB.out).mono ?_; rintro e w' ⟨rfl,rfl⟩;go_wp2_with fail;go_ret;exact ⟨rfl,rfl⟩
 rw [if_neg (fun h => hy h.2)]
 generalize wAt m k = y at *
 by_cases hm:4 * n < L
 ·rw [if_pos hm];have h3:(n:Int) * 4 < (L:Int):=by omega
  clear HW;go_enter Tryz.func187,Tryz.ntmps187;go_wp2_with fail;refine (HA.out).mono ?_; rintro e w' ⟨rfl,rfl⟩;go_wp2_with fail;refine (HB.out).mono ?_; rintro e w' ⟨rfl,rfl⟩;go_wp2_with fail;go_ret;exact ⟨rfl,rfl⟩
 ·rw [if_neg hm];have h3:¬ (n:Int) * 4 < (L:Int):=by omega
  clear HW;go_enter Tryz.func187,Tryz.ntmps187;go_wp2_with fail;refine (HA.out).mono ?_; rintro e w' ⟨rfl,rfl⟩;go_wp2_with fail;refine (HB.out).mono ?_; rintro e w' ⟨rfl,rfl⟩;go_wp2_with fail;go_ret;exact ⟨rfl,rfl⟩
set_option maxRecDepth 100000
open Go.RowKit
set_option linter.unusedVariables false
theorem zqs8 {w:World} {b off L c k:Nat} {l:List Int} (h:Ints .u8 w (.slice (some ⟨b,off,none⟩) L c) l) (hk:k ≤ L):Ints .u8 w (.slice (some ⟨b,off + k,none⟩) (L - k) (c - k)) (l.drop k):=by
 obtain ⟨a,cap,e,hl,hc⟩:=h;simp only [Value.slice.injEq] at e;obtain ⟨rfl,rfl,rfl⟩:=e;refine ⟨_,_,by rw [List.length_drop],by rw [List.length_drop]; omega,?_⟩
 rcases hc with rfl | ⟨b',off',e,hbl,hcell⟩
 ·exact .inl (by simp)
 ·simp only [Option.some.injEq,Addr.mk.injEq,and_true] at e;obtain ⟨rfl,rfl⟩:=e;refine .inr ⟨_,_,rfl,hbl,fun i hi => ?_⟩
  rw [List.length_drop] at hi;have:=hcell (k + i) (by omega)
  rw [show off + (k + i) = off + k + i by omega] at this
  rw [this];simp [List.getD,List.getElem?_drop]
theorem zqqu {w:World} {b off L c:Nat} {l:List Int} (h:Ints .u8 w (.slice (some ⟨b,off,none⟩) L c) l) (hk:3 ≤ L) (hc:L ≤ c):∃ o d,Ints .u8 w (.slice (some ⟨b,o,none⟩) (L - 3) d) (l.drop 3) ∧ ((c = 3 ∧ o = off ∧ d = 0) ∨ (c ≠ 3 ∧ o = off + 3 ∧ d = c - 3)):=by
 by_cases e:c = 3
 ·refine ⟨off,0,?_,.inl ⟨e,rfl,rfl⟩⟩;have hL:l.length = L:=by obtain ⟨_,_,e,_⟩:=h; simp at e; exact e.2.1.symm
  have e1:l.drop 3 = []:=by rw [List.drop_eq_nil_iff]; omega
  rw [e1,show L - 3 = 0 by omega]
  exact ⟨_,_,rfl,by simp,.inl rfl⟩
 ·exact ⟨off + 3,c - 3,zqs8 h hk,.inr ⟨e,rfl,rfl⟩⟩
def ReadP5 (l:List Int) (w:World) (e:Ending) (w':World):Prop :=
 (errN l ≠ 0 ∧ e = .returned (.tuple #[.pointer none,.int .i64 (errN l)]) ∧ Below w.heap.size w w') ∨
 (errN l = 0 ∧ ∃ N,e = .returned (.tuple #[.pointer (some ⟨N,0,none⟩),.int .i64 0]) ∧ w.heap.size ≤ N ∧ SumAt w' N (readF l) (readT l) ∧ Below w.heap.size w w')
theorem zqki {l:List Int} {w:World} {k:Nat} (h:errN l = k) (hk:k ≠ 0):ReadP5 l w (.returned (.tuple #[.pointer none,.int .i64 k])) w:=.inl ⟨by omega,by rw [h],Below.refl _ _⟩
theorem zqp6 (m:List Int) (n:Nat):bodyN m n = 0 ∨ (bodyN m n ≠ 0 ∧ bodyN m n ≤ 7):=by
 unfold bodyN
 repeat' split
 all_goals omega
theorem and32:∀ X:Nat,X < 64 → (((X &&& 32:Nat):Int) != 0) = decide ((X:Int) / 32 = 1):=by decide +kernel
theorem clr32:∀ X:Nat,X < 64 → bits .andNot .u8 (X:Int) 32 = ((X % 32:Nat):Int):=by decide +kernel
theorem zqi6 {l:List Int} (hx:0 ≤ l.getD 0 0 ∧ l.getD 0 0 ≤ 255) (h63:l.getD 0 0 ≤ 63):(bits .and .u8 (l.getD 0 0) 32 != 0) = readB l ∧ bits .andNot .u8 (l.getD 0 0) 32 = (readF l:Int):=by
 unfold readB readF;obtain ⟨X,hX⟩:=Int.eq_ofNat_of_zero_le hx.1;rw [hX] at h63 ⊢;have h1:=and32 X (by omega)
 have h2:=zqfh X 32 (by omega) (by decide)
 have h3:=clr32 X (by omega)
 rw [show ((32:Nat):Int) = 32 from rfl] at h2;rw [h2,h1];exact ⟨rfl,by rw [h3]; rfl⟩
theorem zqmt {w wr:World} {g cap:Nat} {a:List Int} {t:Int} (h:Fill w g cap a wr) (hd:Wd a) (hl:a.length ≤ 1000) (ht:Tidy a) (hz:0 ≤ wv a) (hn:t.natAbs = (wv a).toNat):Mag wr (.slice (some ⟨g,0,none⟩) a.length cap) t :=
 ⟨a,h.1.wlist hd (by omega),Typed.own h.1,ht,by omega⟩
set_option maxHeartbeats 4000000 in
theorem zqgn (p:Option Addr) (L c:Nat) (l:List Int) (w:World) (hv:Ints .u8 w (.slice p L c) l) (hb:Bt5 l) :
  Calls Tryz.prog 152 #[.slice p L c] w (ReadP5 l w):=by
 have hL:l.length = L:=by obtain ⟨_,_,e,_⟩:=hv; simp at e; exact e.2.1.symm
 have hcap:L ≤ c:=by obtain ⟨_,_,e,h,_⟩:=hv; simp at e; omega
 have HB:=zh (zqp4 p L c l w hv hb);obtain ⟨g1,g2⟩:=zqh5 hb;rw [hL] at g1 g2;unfold HeadP at HB
 by_cases ho:okHead L (l.getD 0 0) (l.getD 1 0) (l.getD 2 0)
 ·by_cases h3:L < 3
  ·have hE:=g1 ho;rw [if_pos h3] at hE;have hR:=zh (zqki (w:=w) hE (by decide))
   have h3':(L:Int) < 3:=by omega
   have HO:=zh ho;clear hE hv hb g1 g2 ho;go_enter Tryz.func152,Tryz.ntmps152;go_wp2_with fail;refine (HB.out).mono ?_; rintro e w1 ⟨r,rfl,hr,rfl⟩;obtain rfl:r = true:=hr.2 HO.out;clear hr;go_wp2_with fail;exact bodyPost_ret (v:=.tuple #[.pointer none,.int .i64 5]) (by simp [results,Tryz.results152,go_sem]) rfl hR.out
  ·have hE:=g1 ho;rw [if_neg h3] at hE;obtain ⟨b,off,rfl,hbl,c0⟩:=hv.cell (i:=0) (by omega)
   have c1:w.cell? ⟨b,off + 1,none⟩ = some (.int .u8 (l.getD 1 0)):=by
    obtain ⟨b',off',hp',-,c1⟩:=hv.cell (i:=1) (by omega)
    simp only [Option.some.injEq,Addr.mk.injEq,and_true] at hp';obtain ⟨rfl,rfl⟩:=hp';exact c1
   have c2:w.cell? ⟨b,off + 2,none⟩ = some (.int .u8 (l.getD 2 0)):=by
    obtain ⟨b',off',hp',-,c1⟩:=hv.cell (i:=2) (by omega)
    simp only [Option.some.injEq,Addr.mk.injEq,and_true] at hp';obtain ⟨rfl,rfl⟩:=hp';exact c1
   rw [Nat.add_zero] at c0;have hx:=hb.getD 0;have hy:=hb.getD 1;have hn:=hb.getD 2;have e1:l.getD 1 0 = (lowN l:Int):=by unfold lowN; omega
   have e2:l.getD 2 0 = (cntN l:Int):=by unfold cntN; omega
   have hn2:cntN l ≤ 255:=by omega
   obtain ⟨o,d,hd,hod⟩:=zqqu hv (by omega) hcap
   have HCk:=zh (zqqb _ _ _ (l.drop 3) (cntN l) w hd (hb.drop 3) hn2);have hbr:=zqp6 (l.drop 3) (cntN l);have HO:=zh ho;have hL3:¬ (L:Int) < 3:=by omega
   have hL3':(3:Int) ≤ (c:Int):=by omega
   rw [e2] at c2
   by_cases hz:bodyN (l.drop 3) (cntN l) = 0
   ·rw [hz] at hE HCk;have hG:=zqgs hb hE;have hlw:=zqdf hb hE;have HR:=zh (And.intro hG (And.intro hlw hE));have Hx:=zh (And.intro hx hlw.2.2.2.2.2.2);have hT70:lowN l + cntN l ≤ 70:=hlw.2.2.1;have HWd:=zh (zqdh hb);have HS:=zh (RowAt5.start l);have HSt:=zh (fun i a (h:RowAt5 l i a) (hi:i < cntN l) => h.step hi)
    have HSp:=zh (fun a (h:RowAt5 l (cntN l) a) => h.stop)
    have HL:=zh (zqa2 l);have hlen3:=(zqfq hE).2.2.2.2.1;have HXw:=zh (fun i (hi:i < cntN l) w1 (h:Below w.heap.size w w1) => zql6 _ _ _ (l.drop 3) i w1 (hd.below h) (hb.drop 3) (by rw [List.length_drop]; omega) (by omega))
    rw [e1] at c1;have HC:=zh (And.intro hbl (And.intro c0 c1));have HLen:=zh (fun i a (h:RowAt5 l i a) => h.1)
    clear hv hb g1 g2 ho hbr hG hlw hE hz hd e1 e2 hy hn hx;generalize lowN l = lw at *;generalize cntN l = n at *;obtain ⟨i0,hi,hz0,hz1,hz2⟩:=info_parts Tryz.infoU32;have h1:(lw:Int) + (n:Int) ≤ 70:=by omega
    rcases hod with ⟨rfl,rfl,rfl⟩ | ⟨hc3,rfl,rfl⟩
    ·obtain rfl:n = 0:=by omega
     obtain rfl:L = 3:=by omega
     have HCk:=zh (show Calls Tryz.prog 187 #[.slice (some ⟨b,o,none⟩) 0 0,.int .i64 0] w (fun e w' => e = .returned (.int .i64 0) ∧ w = w') from HCk.out)
     go_enter Tryz.func152,Tryz.ntmps152;go_wp2_with fail;refine (HB.out).mono ?_; rintro e w1 ⟨r,rfl,hr,rfl⟩;obtain rfl:r = true:=hr.2 HO.out;clear hr;go_wp2_with fail;refine (HCk.out).mono ?_; rintro e w1 ⟨rfl,rfl⟩;go_wp2_with (at_make; refine wpList_make_full _ rfl _ _ 24 rfl w.heap.size 27 i0 (.int .u32 0) 1 Tryz.underlying24 hi hz0 hz1 .i64 .i64 _ _ lw rfl rfl (by omega) (by omega) (by rw [hz2]; omega) (by unfold maxLen; omega) (by simp) ?_; intro w0 hown hgrow)
     have hF:=zh (zqbw rfl hown hgrow);clear hown hgrow;go_wp2_with fail;go_loopw [34] (fun i wr => ∃ out:List Int,i = .int .i64 0 ∧ Hid (RowAt5 l 0 out) ∧ Hid (Fill w w.heap.size lw out wr)) (fun _ _ => 0)
     case atStart => exact ⟨_,rfl,HS,hF⟩
     case round =>
      obtain ⟨out,rfl,hr,hS⟩:=hrel;clear hF HSt HXw;obtain rfl:out = wordsR l:=HSp.out out hr.out;have hM:=zqmt (t:=readT l) hS.out HWd.out (by rw [HL.out]; omega) HR.out.2.1.2.1 HR.out.1.2.2.2 HR.out.1.2.1
      have hbb:=hS.out.2;have hfl:=zqi6 (l:=l) Hx.out.1 Hx.out.2;rw [← HR.out.1.2.2.1] at hfl;rw [HL.out] at hM;try rw [Nat.add_zero] at hM
      obtain ⟨hf1,hf2⟩:=hfl;have hc0:=hbb.cell (p:=⟨b,o,none⟩) hbl;rw [c0] at hc0;have HM:=zh (And.intro hM hbb);have HG:=zh (And.intro HR.out.1.1 HR.out.2.2);unfold ReadP5;clear hr hS hM hbb HR HSp HWd HL;generalize hFF:readF l = F at *;generalize hTT:readT l = T at *;generalize l.getD 0 0 = x at *;go_wp2_with fail;refine bodyPost_ret (v:=.tuple #[.pointer (some ⟨wr.heap.size,0,none⟩),.int .i64 0]) (by simp [results,Tryz.results152,go_sem]) rfl (.inr ⟨HG.out.2,_,rfl,HM.out.2.size,?_,?_⟩)
      ·rw [hFF,hTT];exact ⟨_,Cells4.new wr _ _ _ _,HM.out.1.below (zqab _ _),HG.out.1⟩
      ·exact zqaa HM.out.2 (zqab _ _)
    ·go_enter Tryz.func152,Tryz.ntmps152;go_wp2_with fail;refine (HB.out).mono ?_; rintro e w1 ⟨r,rfl,hr,rfl⟩;obtain rfl:r = true:=hr.2 HO.out;clear hr;go_wp2_with fail;refine (HCk.out).mono ?_; rintro e w1 ⟨rfl,rfl⟩;go_wp2_with (at_make; refine wpList_make_full _ rfl _ _ 24 rfl w.heap.size 27 i0 (.int .u32 0) 1 Tryz.underlying24 hi hz0 hz1 .i64 .i64 _ _ (lw + n) rfl rfl (by omega) (by omega) (by rw [hz2]; omega) (by unfold maxLen; omega) (by simp) ?_; intro w0 hown hgrow)
     have hF:=zh (zqbw rfl hown hgrow);clear hown hgrow;go_wp2_with fail;go_loopw [34] (fun i wr => ∃ (k:Nat) (out:List Int),k ≤ n ∧ i = .int .i64 k ∧ Hid (RowAt5 l k out) ∧ Hid (Fill w w.heap.size (lw + n) out wr)) (fun i _ => n - (intOf i).toNat)
     case atStart => exact ⟨0,_,Nat.zero_le _,rfl,HS,hF⟩
     case round =>
      obtain ⟨k,out,hk,rfl,hr,hS⟩:=hrel;clear hF
      by_cases hlt:k < n
      ·have hlen:=HLen.out _ _ hr.out;obtain ⟨ho1,ho2⟩:=hS.out.cells (j:=lw + n - 1 - k) (by omega)
       have HX1:=zh (HXw.out k hlt wr hS.out.2);have HNx:=zh (HSt.out k out hr.out hlt);have HSS:=zh (fun z => hS.out.set (lw + n - 1 - k) z)
       obtain ⟨j,hj⟩:∃ j,lw + n - 1 - k = j:=⟨_,rfl⟩
       rw [hj] at ho1 ho2;have HJ:=zh hj;have j1:(lw:Int) + n - 1 - k = j:=by omega
       have j2:(j:Int) < (lw:Int) + n:=by omega
       have j3:IntKind.i64.wrap ((lw:Int) + n - 1) = (lw:Int) + n - 1:=IntWalk.i64_in _ (by omega)
       have j4:IntKind.i64.wrap ((lw:Int) + n - 1 - k) = j:=by rw [IntWalk.i64_in _ (by omega)]; omega
       generalize wAt (l.drop 3) k = z at *;clear hr hS hlen hj;go_wp2_with fail;refine (HX1.out).mono ?_; rintro e w1 ⟨rfl,rfl⟩;go_wp2_with fail;go_roundw
       case rel => exact ⟨k + 1,_,by omega,by go_num,HNx,zh (by have h:=HSS.out z; rw [HJ.out] at h; rw [HJ.out]; exact h)⟩
       case measure => simp [intOf]; omega
      ·obtain rfl:k = n:=by omega
       clear HSt HXw;obtain rfl:out = wordsR l:=HSp.out out hr.out;have hM:=zqmt (t:=readT l) hS.out HWd.out (by rw [HL.out]; omega) HR.out.2.1.2.1 HR.out.1.2.2.2 HR.out.1.2.1
       have hbb:=hS.out.2;have hfl:=zqi6 (l:=l) Hx.out.1 Hx.out.2;rw [← HR.out.1.2.2.1] at hfl;rw [HL.out] at hM;try rw [Nat.add_zero] at hM
       obtain ⟨hf1,hf2⟩:=hfl;have hc0:=hbb.cell (p:=⟨b,off,none⟩) hbl;rw [c0] at hc0;have HM:=zh (And.intro hM hbb);have HG:=zh (And.intro HR.out.1.1 HR.out.2.2);unfold ReadP5;clear hr hS hM hbb HR HSp HWd HL;generalize hFF:readF l = F at *;generalize hTT:readT l = T at *;generalize l.getD 0 0 = x at *;go_wp2_with fail;refine bodyPost_ret (v:=.tuple #[.pointer (some ⟨wr.heap.size,0,none⟩),.int .i64 0]) (by simp [results,Tryz.results152,go_sem]) rfl (.inr ⟨HG.out.2,_,rfl,HM.out.2.size,?_,?_⟩)
       ·rw [hFF,hTT];exact ⟨_,Cells4.new wr _ _ _ _,HM.out.1.below (zqab _ _),HG.out.1⟩
       ·exact zqaa HM.out.2 (zqab _ _)
   ·have hR:=zh (zqki (w:=w) hE hz);clear hE hv hb g1 g2 ho hbr;generalize bodyN (l.drop 3) (cntN l) = R at *;generalize cntN l = n at *;clear hx hy hn e1 e2 hd;have hR0:¬ (R:Int) = 0:=by omega
    rcases hod with ⟨rfl,rfl,rfl⟩ | ⟨hc3,rfl,rfl⟩
    ·obtain rfl:L = 3:=by omega
     have HCk:=zh (show Calls Tryz.prog 187 #[.slice (some ⟨b,o,none⟩) 0 0,.int .i64 n] w (fun e w' => e = .returned (.int .i64 R) ∧ w = w') from HCk.out)
     go_enter Tryz.func152,Tryz.ntmps152;go_wp2_with fail;refine (HB.out).mono ?_; rintro e w1 ⟨r,rfl,hr,rfl⟩;obtain rfl:r = true:=hr.2 HO.out;clear hr;go_wp2_with fail;refine (HCk.out).mono ?_; rintro e w1 ⟨rfl,rfl⟩;go_wp2_with fail;exact bodyPost_ret (v:=.tuple #[.pointer none,.int .i64 R]) (by simp [results,Tryz.results152,go_sem]) rfl hR.out
    ·go_enter Tryz.func152,Tryz.ntmps152;go_wp2_with fail;refine (HB.out).mono ?_; rintro e w1 ⟨r,rfl,hr,rfl⟩;obtain rfl:r = true:=hr.2 HO.out;clear hr;go_wp2_with fail;refine (HCk.out).mono ?_; rintro e w1 ⟨rfl,rfl⟩;go_wp2_with fail;exact bodyPost_ret (v:=.tuple #[.pointer none,.int .i64 R]) (by simp [results,Tryz.results152,go_sem]) rfl hR.out
 ·have hR:=zh (zqki (w:=w) (g2 ho) (by decide))
  have HO:=zh ho;clear hv hb g1 g2 ho;go_enter Tryz.func152,Tryz.ntmps152;go_wp2_with fail;refine (HB.out).mono ?_; rintro e w1 ⟨r,rfl,hr,rfl⟩;obtain rfl:r = false:=by
   cases r; · rfl
   ·exact absurd (hr.1 rfl) HO.out
  clear hr;go_wp2_with fail;exact bodyPost_ret (v:=.tuple #[.pointer none,.int .i64 6]) (by simp [results,Tryz.results152,go_sem]) rfl hR.out
end Go.Proofs.YtmnbljijnbhghaaGreatDoor
