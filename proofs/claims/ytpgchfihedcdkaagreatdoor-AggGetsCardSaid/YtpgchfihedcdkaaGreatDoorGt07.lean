/- Contracts that the law leans on: Codeb Agga. -/
import Derived.Lib.ItoaNum
import Derived.OwnWalk
import Derived.Deep.AppendLies
import Derived.Deep.RegionLawGrows
import Derived.Test.YtpgchfihedcdkaaGreatDoorGt06
namespace Go.Proofs.YtpgchfihedcdkaaGreatDoor
set_option maxRecDepth 100000
set_option linter.unusedVariables false
def Bt (l:List Int):Prop:=∀ x ∈ l,0 ≤ x ∧ x ≤ 255
theorem zqt6:Bt []:=fun _ h => by cases h
theorem Bt.cons {c:Int} {l:List Int} (h0:0 ≤ c) (h1:c ≤ 255) (h:Bt l):Bt (c :: l):=fun x hx => by
 rcases List.mem_cons.1 hx with rfl | h'
 ·exact ⟨h0,h1⟩
 ·exact h x h'
theorem Bt.head {c:Int} {l:List Int} (h:Bt (c :: l)):0 ≤ c ∧ c ≤ 255:=h c (by simp)
theorem Bt.tail {c:Int} {l:List Int} (h:Bt (c :: l)):Bt l:=fun x hx => h x (by simp [hx])
theorem Bt.tl {l:List Int} (h:Bt l):Bt l.tail:=fun x hx => h x (List.mem_of_mem_tail hx)
theorem Bt.drop {l:List Int} (h:Bt l) (n:Nat):Bt (l.drop n):=fun x hx => h x (List.mem_of_mem_drop hx)
theorem Bt.getD {l:List Int} (h:Bt l) {d:Int} (d0:0 ≤ d) (d1:d ≤ 255) (i:Nat):0 ≤ l.getD i d ∧ l.getD i d ≤ 255:=by
 by_cases hi:i < l.length
 ·rw [List.getD,List.getElem?_eq_getElem hi]; exact h _ (List.getElem_mem hi)
 ·rw [List.getD,List.getElem?_eq_none (by omega)]; exact ⟨d0,d1⟩
theorem zqe1 (n:Nat):0 < 256 ^ n:=Nat.pow_pos (by decide)
def bigN (x:Nat):Nat → List Int
 | 0 => []
 | n + 1 => ((x / 256 ^ n % 256:Nat):Int) :: bigN x n
theorem zqcc (x:Nat):∀ n,(bigN x n).length = n
 | 0 => rfl
 | n + 1 => by simp [bigN,zqcc x n]
theorem zqqg (x:Nat):∀ n,Bt (bigN x n)
 | 0 => zqt6
 | n + 1 => Bt.cons (by omega) (by omega) (zqqg x n)
theorem zqje (x m:Nat):∀ n,n ≤ m → bigN (x % 256 ^ m) n = bigN x n
 | 0,_ => rfl
 | n + 1,h => by
  rw [bigN,bigN,zqje x m n (by omega)]
  have e:256 ^ m = 256 ^ n * (256 * 256 ^ (m - 1 - n)):=by
   rw [show m = n + (1 + (m - 1 - n)) by omega,Nat.pow_add,Nat.pow_add]
   have:n + (1 + (m - 1 - n)) - 1 - n = m - 1 - n:=by omega
   rw [this]
  rw [e,Nat.mod_mul_right_div_self,Nat.mod_mul_right_mod]
def bytesN (x:Nat):Nat:=(Lib.bitLen x + 7) / 8
theorem pow_8 (n:Nat):256 ^ n = 2 ^ (8 * n):=by rw [show (256:Nat) = 2 ^ 8 by decide,← Nat.pow_mul]
def IsLen (x n:Nat):Prop:=x < 256 ^ n ∧ (n = 0 ∨ 256 ^ (n - 1) ≤ x)
theorem IsLen.unique {x n m:Nat} (h:IsLen x n) (k:IsLen x m):n = m:=by
 have key:∀ {n m:Nat},IsLen x n → IsLen x m → ¬ n < m:=by
  intro n m h k hlt;rcases k.2 with h0 | h0
  ·omega
  ·have:256 ^ n ≤ 256 ^ (m - 1):=Nat.pow_le_pow_right (by decide) (by omega)
   have:=h.1;omega
 have:=key h k;have:=key k h;omega
theorem zqeb (x:Nat) (h:x < 18446744073709551616):IsLen x (bytesN x):=by
 by_cases h0:x = 0
 ·subst h0; unfold IsLen bytesN; decide
 ·obtain ⟨b1,b2,b3⟩:=Lib.bitLenAux_bounds 64 x h h0;have e:Lib.bitLen x = Lib.bitLenAux 64 x:=rfl;unfold IsLen bytesN;rw [e];generalize Lib.bitLenAux 64 x = b at b1 b2 b3;refine ⟨?_,.inr ?_⟩
  ·rw [pow_8]; exact Nat.lt_of_lt_of_le b3 (Nat.pow_le_pow_right (by decide) (by omega))
  ·rw [pow_8]; exact Nat.le_trans (Nat.pow_le_pow_right (by decide) (by omega)) b2
theorem zqce (x:Nat) (h:x < 18446744073709551616):bytesN x ≤ 8:=by
 have:=Lib.bitLen_le x 64 (by decide) h
 unfold bytesN; omega
def encU (x:Nat):List Int:=(bytesN x:Int) :: bigN x (bytesN x)
def encI (x:Int):List Int:=if 0 ≤ x then (9 + bytesN x.toNat:Int) :: bigN x.toNat (bytesN x.toNat) else (8 - bytesN (-1 - x).toNat:Int) :: bigN (x % 18446744073709551616).toNat (bytesN (-1 - x).toNat)
def encF (k:Nat):List Int:=bigN k 8
theorem zqdr {x:Nat} (h:x < 18446744073709551616):(encU x).length = bytesN x + 1 ∧ (encU x).length ≤ 9:=by
 have:=zqce x h;simp [encU,zqcc]; omega
def headI (x:Int):Nat:=if 0 ≤ x then x.toNat else (-1 - x).toNat
theorem zqyt {x:Int} (h0:-9223372036854775808 ≤ x) (h1:x ≤ 9223372036854775807):headI x < 9223372036854775808:=by unfold headI; split <;> omega
theorem zqca {x:Int} (h0:-9223372036854775808 ≤ x) (h1:x ≤ 9223372036854775807):(encI x).length = bytesN (headI x) + 1 ∧ (encI x).length ≤ 9:=by
 have h:=zqyt h0 h1;have:=zqce (headI x) (by omega)
 unfold encI headI at *
 split
 ·rename_i hx; rw [if_pos hx] at this; simp [zqcc]; omega
 ·rename_i hx; rw [if_neg hx] at this; simp [zqcc]; omega
def fillN (t:List Int) (f:Int):Nat → Int
 | 0 => 0
 | n + 1 => fillN t f n * 256 + t.getD n f
theorem p256 (n:Nat):(0:Int) < 256 ^ n:=Int.pow_pos (by decide)
theorem zqam {t:List Int} (h:Bt t) {f:Int} (f0:0 ≤ f) (f1:f ≤ 255):∀ n,0 ≤ fillN t f n ∧ fillN t f n < 256 ^ n
 | 0 => by simp [fillN]
 | n + 1 => by
  have ih:=zqam h f0 f1 n;have:=h.getD f0 f1 n;rw [fillN,Int.pow_succ]; omega
theorem zqb5 (t:List Int) (f:Int):∀ n,fillN t f (n + 1) = t.getD 0 f * 256 ^ n + fillN t.tail f n
 | 0 => by simp [fillN]
 | n + 1 => by
  have e:t.getD (n + 1) f = t.tail.getD n f:=by cases t <;> simp
  rw [fillN,zqb5 t f n,fillN,Int.pow_succ,Int.add_mul,e,Int.mul_assoc]; omega
theorem zqhl {t:List Int} (f:Int):∀ n,n ≤ t.length → fillN t f n = fillN t 0 n
 | 0,_ => rfl
 | n + 1,h => by
  rw [fillN,fillN,zqhl f n (by omega)]
  simp [List.getD,List.getElem?_eq_getElem (show n < t.length by omega)]
theorem zqqn {t:List Int} (h:Bt t):∀ n,fillN t 0 n ≤ fillN t 255 n
 | 0 => by simp [fillN]
 | n + 1 => by
  have:=zqqn h n;have:t.getD n 0 ≤ t.getD n 255:=by
   by_cases hn:n < t.length
   ·simp [List.getD,List.getElem?_eq_getElem hn]
   ·simp [List.getD,List.getElem?_eq_none (Nat.le_of_not_lt hn)]
  rw [fillN,fillN]; omega
def getU:List Int → Int × Nat × Nat
 | [] => (0,0,5)
 | h :: t => if 8 < h ∨ (0 < h ∧ t.getD 0 1 = 0) then (0,0,6) else if t.length < h.toNat then (0,0,5) else (fillN t 0 h.toNat,h.toNat + 1,0)
theorem zqba (h:Int) (t:List Int):getU (h :: t) = if 8 < h ∨ (0 < h ∧ t.getD 0 1 = 0) then (0,0,6) else if t.length < h.toNat then (0,0,5) else (fillN t 0 h.toNat,h.toNat + 1,0):=rfl
def badI (h:Int) (t:List Int) (n:Nat):Prop:=8 < n ∨ (0 < n ∧ 0 < t.length ∧ (if h < 9 then t.getD 0 0 = 255 ∨ (n = 8 ∧ t.getD 0 0 < 128) else t.getD 0 0 = 0 ∨ (n = 8 ∧ 127 < t.getD 0 0)))
instance (h:Int) (t:List Int) (n:Nat):Decidable (badI h t n):=by unfold badI; infer_instance
def sizeI (h:Int):Nat:=if h < 9 then (8 - h).toNat else (h - 9).toNat
def getI:List Int → Int × Nat × Nat
 | [] => (0,0,5)
 | h :: t => if badI h t (sizeI h) then (0,0,6) else if t.length < sizeI h then (0,0,5) else (if h < 9 then fillN t 0 (sizeI h) - 256 ^ sizeI h else fillN t 0 (sizeI h),sizeI h + 1,0)
theorem zqcf (h:Int) (t:List Int):getI (h :: t) = if badI h t (sizeI h) then (0,0,6) else if t.length < sizeI h then (0,0,5) else (if h < 9 then fillN t 0 (sizeI h) - 256 ^ sizeI h else fillN t 0 (sizeI h),sizeI h + 1,0):=rfl
def Keyed (k:Int):Prop:=k = 18446744073709551615 ∨ (4503599627370495 ≤ k ∧ k ≤ 18442240474082181120)
instance (k:Int):Decidable (Keyed k):=by unfold Keyed; infer_instance
def getF (b:List Int):Int × Nat :=
 if 8 ≤ b.length then (if Keyed (fillN b 0 8) then (fillN b 0 8,0) else (0,6))
 else if Keyed (fillN b 0 8) ∨ Keyed (fillN b 255 8) ∨ (fillN b 0 8 < 9223372036854775808 ∧ 9223372036854775808 ≤ fillN b 255 8) then (0,5) else (0,6)
def meetB (lo hi first last:Int):Bool:=decide (lo ≤ last) && decide (first ≤ hi)
def num1 (b:List Int) (n:Nat) (first last:Int):Int × Nat :=
 if meetB (fillN b 0 n) (fillN b 255 n) first last then (if b.length < n then (0,5) else (fillN b 0 n,0)) else (0,6)
def num2 (b:List Int) (n:Nat) (f1 l1 f2 l2:Int):Int × Nat :=
 if meetB (fillN b 0 n) (fillN b 255 n) f1 l1 || meetB (fillN b 0 n) (fillN b 255 n) f2 l2 then (if b.length < n then (0,5) else (fillN b 0 n,0)) else (0,6)
theorem zqyo {b:List Int} (h:Bt b):num2 b 8 4503599627370495 18442240474082181120 18446744073709551615 18446744073709551615 = getF b:=by
 have r0:=zqam h (f:=0) (by decide) (by decide) 8
 have r1:=zqam h (f:=255) (by decide) (by decide) 8
 have hle:=zqqn h 8;have hfull:=zqhl (t:=b) 255 8;have e8:(256:Int) ^ 8 = 18446744073709551616:=by decide
 rw [e8] at r0 r1;unfold num2 getF meetB;generalize fillN b 0 8 = lo at *;generalize fillN b 255 8 = hi at *
 by_cases hl:8 ≤ b.length
 ·have:=hfull hl;subst this;rw [if_pos hl,if_neg (show ¬ b.length < 8 by omega)]
  simp only [Bool.or_eq_true,Bool.and_eq_true,decide_eq_true_eq]
  by_cases hk:Keyed hi
  all_goals (have hk':=hk; unfold Keyed at hk')
  ·rw [if_pos hk,if_pos (by omega)]
  ·rw [if_neg hk,if_neg (by omega)]
 ·rw [if_neg hl,if_pos (show b.length < 8 by omega)]
  simp only [Bool.or_eq_true,Bool.and_eq_true,decide_eq_true_eq];have e1:Keyed lo ↔ (lo = 18446744073709551615 ∨ (4503599627370495 ≤ lo ∧ lo ≤ 18442240474082181120)):=Iff.rfl;have e2:Keyed hi ↔ (hi = 18446744073709551615 ∨ (4503599627370495 ≤ hi ∧ hi ≤ 18442240474082181120)):=Iff.rfl
  split <;> split <;> rename_i p q <;> rw [e1,e2] at q <;> first | rfl | (exfalso; omega)
def grN (n:Nat):Int:=256 ^ n - 1
def needF (n:Nat):Int:=if n = 0 then 0 else grN (n - 1) + 1
def needL (n:Nat) (most:Int):Int:=if n = 0 then 0 else min (grN n) most
theorem zqyp {h:Int} {t:List Int} (ht:Bt t) (h0:0 ≤ h) (h8:h ≤ 8) :
  getU (h :: t) = (let r:=num1 t h.toNat (needF h.toNat) (needL h.toNat 18446744073709551615); if r.2 = 0 then (r.1,1 + h.toNat,0) else (0,0,r.2)):=by
 obtain ⟨n,rfl⟩:=Int.eq_ofNat_of_zero_le h0;simp only [Int.toNat_natCast];unfold getU num1 meetB needF needL grN;simp only [Int.toNat_natCast];cases n with
 | zero => simp [fillN]
 | succ m =>
  have r0:=zqam ht (f:=0) (by decide) (by decide) (m + 1)
  have r1:=zqam ht.tl (f:=255) (by decide) (by decide) m
  have hle:(256:Int) ^ (m + 1) ≤ 256 ^ 8:=by
   have:256 ^ (m + 1) ≤ 256 ^ 8:=Nat.pow_le_pow_right (by decide) (by omega)
   exact_mod_cast this
  have e8:(256:Int) ^ 8 = 18446744073709551616:=by decide
  have hh:=zqb5 t 255 m;have hp:=p256 m;have hb:=ht.getD (d:=255) (by decide) (by decide) 0
  have hz:t.getD 0 1 = 0 ↔ t.getD 0 255 = 0:=by cases t <;> simp
  have hcond:(fillN t 255 (m + 1) < 256 ^ m) ↔ t.getD 0 255 = 0:=by
   rw [hh]
   constructor
   ·intro hc;apply Classical.byContradiction;intro hne;have:1 * (256:Int) ^ m ≤ t.getD 0 255 * 256 ^ m:=Int.mul_le_mul_of_nonneg_right (by omega) (by omega)
    omega
   ·intro hc; rw [hc]; omega
  simp only [Nat.succ_ne_zero,if_false,Nat.add_sub_cancel];have hm:fillN t 0 (m + 1) ≤ min (256 ^ (m + 1) - 1) 18446744073709551615:=by omega
  by_cases hc:t.getD 0 255 = 0
  ·have:=hcond.2 hc;rw [if_pos (.inr ⟨by omega,hz.2 hc⟩)]
   have e:(decide (fillN t 0 (m + 1) ≤ min (256 ^ (m + 1) - 1) 18446744073709551615) && decide (256 ^ m - 1 + 1 ≤ fillN t 255 (m + 1))) = false:=by
    rw [Bool.and_eq_false_iff]; right; rw [decide_eq_false_iff_not]; omega
   rw [e]; simp
  ·have:¬ fillN t 255 (m + 1) < 256 ^ m:=fun hh => hc (hcond.1 hh)
   rw [if_neg (by rw [hz]; omega)]
   have e:(decide (fillN t 0 (m + 1) ≤ min (256 ^ (m + 1) - 1) 18446744073709551615) && decide (256 ^ m - 1 + 1 ≤ fillN t 255 (m + 1))) = true:=by
    rw [Bool.and_eq_true]; exact ⟨decide_eq_true hm,by rw [decide_eq_true_iff]; omega⟩
   rw [e]
   by_cases hl:t.length < m + 1
   ·simp [hl]
   ·simp [hl]; omega
theorem zqma:∀ n,fillN [] 0 n = 0
 | 0 => rfl
 | n + 1 => by unfold fillN; rw [zqma n]; rfl
theorem zqi1:∀ n,fillN [] 255 n = 256 ^ n - 1
 | 0 => rfl
 | n + 1 => by unfold fillN; rw [zqi1 n,Int.pow_succ]; simp; omega
def spanI (h:Int):Int × Int:=if h < 9 then (grN (sizeI h) - needL (sizeI h) 9223372036854775807,grN (sizeI h) - needF (sizeI h)) else (needF (sizeI h),needL (sizeI h) 9223372036854775807)
theorem zqzc {c r s:Int} {m:Nat} (hm:m ≤ 7) (c0:0 ≤ c) (c1:c ≤ 255) (r0:0 ≤ r) (r1:r < 256 ^ m) (s0:0 ≤ s) (s1:s < 256 ^ m) :
  meetB (c * 256 ^ m + r) (c * 256 ^ m + s) (needF (m + 1)) (needL (m + 1) 9223372036854775807) = true ↔ ¬ (c = 0 ∨ (m + 1 = 8 ∧ 127 < c)):=by
 have h:m = 0 ∨ m = 1 ∨ m = 2 ∨ m = 3 ∨ m = 4 ∨ m = 5 ∨ m = 6 ∨ m = 7:=by omega
 rcases h with rfl | rfl | rfl | rfl | rfl | rfl | rfl | rfl <;> simp [meetB,needF,needL,grN] at * <;> omega
theorem zqzb {c r s:Int} {m:Nat} (hm:m ≤ 7) (c0:0 ≤ c) (c1:c ≤ 255) (r0:0 ≤ r) (r1:r < 256 ^ m) (s0:0 ≤ s) (s1:s < 256 ^ m) :
  meetB (c * 256 ^ m + r) (c * 256 ^ m + s) (grN (m + 1) - needL (m + 1) 9223372036854775807) (grN (m + 1) - needF (m + 1)) = true ↔ ¬ (c = 255 ∨ (m + 1 = 8 ∧ c < 128)):=by
 have h:m = 0 ∨ m = 1 ∨ m = 2 ∨ m = 3 ∨ m = 4 ∨ m = 5 ∨ m = 6 ∨ m = 7:=by omega
 rcases h with rfl | rfl | rfl | rfl | rfl | rfl | rfl | rfl <;> simp [meetB,needF,needL,grN] at * <;> omega
theorem zqvm {m:Nat} (hm:m ≤ 7) (h:Int) (hs:sizeI h = m + 1):meetB 0 (256 ^ (m + 1) - 1) (spanI h).1 (spanI h).2 = true:=by
 unfold spanI;rw [hs];have h:m = 0 ∨ m = 1 ∨ m = 2 ∨ m = 3 ∨ m = 4 ∨ m = 5 ∨ m = 6 ∨ m = 7:=by omega
 split <;> rcases h with rfl | rfl | rfl | rfl | rfl | rfl | rfl | rfl <;> simp [meetB,needF,needL,grN] <;> omega
theorem zqof {h:Int} {t:List Int} (ht:Bt t) (h0:0 ≤ h) (h17:h ≤ 17) :
  getI (h :: t) = (let r:=num1 t (sizeI h) (spanI h).1 (spanI h).2; if r.2 = 0 then (if h < 9 then r.1 - 256 ^ sizeI h else r.1,1 + sizeI h,0) else (0,0,r.2)):=by
 rw [zqcf];have hs:sizeI h ≤ 8:=by unfold sizeI; split <;> omega
 unfold num1;generalize hn:sizeI h = n at *;cases n with
 | zero =>
  have hb:¬ badI h t 0:=by unfold badI; omega
  have e:meetB (fillN t 0 0) (fillN t 255 0) (spanI h).1 (spanI h).2 = true:=by
   unfold spanI; rw [hn]; split <;> simp [meetB,needF,needL,grN,fillN]
  rw [if_neg hb,e]; simp
 | succ m =>
  cases t with
  | nil =>
   have hb:¬ badI h [] (m + 1):=by unfold badI; simp; omega
   rw [if_neg hb,zqma,zqi1,zqvm (by omega) h hn]
   simp
  | cons c t =>
   have a0:=zqam ht.tail (f:=0) (by decide) (by decide) m
   have a1:=zqam ht.tail (f:=255) (by decide) (by decide) m
   have hc:=ht.head;rw [zqb5,zqb5];simp only [List.getD_cons_zero,List.tail_cons];have hb:badI h (c :: t) (m + 1) ↔ (if h < 9 then c = 255 ∨ (m + 1 = 8 ∧ c < 128) else c = 0 ∨ (m + 1 = 8 ∧ 127 < c)):=by
    unfold badI; simp only [List.getD_cons_zero,List.length_cons]
    constructor
    ·rintro (h | h)
     ·omega
     ·exact h.2.2
    ·intro h; exact .inr ⟨by omega,by omega,h⟩
   have hmeet:meetB (c * 256 ^ m + fillN t 0 m) (c * 256 ^ m + fillN t 255 m) (spanI h).1 (spanI h).2 = true ↔ ¬ badI h (c :: t) (m + 1):=by
    rw [hb];unfold spanI;rw [hn]
    split
    ·exact zqzb (by omega) hc.1 hc.2 a0.1 a0.2 a1.1 a1.2
    ·exact zqzc (by omega) hc.1 hc.2 a0.1 a0.2 a1.1 a1.2
   by_cases hbad:badI h (c :: t) (m + 1)
   ·have e:meetB (c * 256 ^ m + fillN t 0 m) (c * 256 ^ m + fillN t 255 m) (spanI h).1 (spanI h).2 = false:=by
     rw [Bool.eq_false_iff]; intro he; exact hmeet.1 he hbad
    rw [if_pos hbad,e]; simp
   ·rw [if_neg hbad,hmeet.2 hbad]
    by_cases hl:(c :: t).length < m + 1
    ·rw [if_pos hl,if_pos rfl,if_pos hl]; rfl
    ·rw [if_neg hl,if_pos rfl,if_neg hl,Nat.add_comm 1]; rfl
def getT:List Int → List Int → Nat → List Int × Nat × Nat
 | [],_,_ => ([],0,5)
 | [_],_,_ => ([],0,5)
 | c :: d :: t,acc,i => if c ≠ 0 then getT (d :: t) (acc ++ [c]) (i + 1) else if d = 0 then (acc,i + 2,0) else if d = 1 then getT t (acc ++ [0]) (i + 2) else ([],0,6)
theorem zqoh (acc:List Int) (i:Nat):getT [] acc i = ([],0,5):=rfl
theorem zqoi (c:Int) (acc:List Int) (i:Nat):getT [c] acc i = ([],0,5):=rfl
theorem zqmf {c:Int} (h:c ≠ 0):∀ (t acc:List Int) (i:Nat),getT (c :: t) acc i = getT t (acc ++ [c]) (i + 1)
 | [],_,_ => rfl
 | d :: t,acc,i => by rw [getT,if_pos h]
theorem zqmh (t acc:List Int) (i:Nat):getT (0 :: 0 :: t) acc i = (acc,i + 2,0):=by simp [getT]
theorem zqmi (t acc:List Int) (i:Nat):getT (0 :: 1 :: t) acc i = getT t (acc ++ [0]) (i + 2):=by
 rw [getT,if_neg (by simp)]; simp
theorem zqog {d:Int} (h0:d ≠ 0) (h1:d ≠ 1) (t acc:List Int) (i:Nat):getT (0 :: d :: t) acc i = ([],0,6):=by simp [getT,h0,h1]
set_option maxRecDepth 100000
open Go.RowKit
set_option linter.unusedVariables false
abbrev BOwn (w:World) (B:Nat) (v:Value) (l:List Int):Prop:=w.ownsRow B 5 1 v l.length (l.map (Value.int .u8))
theorem zqae {w:World} {B E:Nat} {v:Value} {n:Nat} {xs:List Value} (h:w.ownsRow B E 1 v n xs):∃ a l c,v = .slice a l c:=by
 obtain ⟨a,c,e⟩:=zqbe h;exact ⟨a,n,c,e⟩
theorem zqci {w:World} {B B':Nat} {v:Value} {l:List Int} (h:BOwn w B v l) (hb:B' ≤ B):BOwn w B' v l:=by
 refine ⟨h.1,?_⟩;rcases h.2 with h0 | ⟨g,cap,cur,h1,h2,h3⟩
 ·exact .inl h0
 ·exact .inr ⟨g,cap,cur,h1,Nat.le_trans hb h2,h3⟩
theorem zqdy {w:World} {B:Nat} {v:Value} {l:List Int} (h:BOwn w B v l) (hn:0 < l.length):∃ g cap,v = .slice (some ⟨g,0,none⟩) l.length cap ∧ B ≤ g ∧ g < w.heap.size:=by
 rcases h.2 with ⟨_,h0⟩ | ⟨g,cap,cur,hv,hb,hg,_⟩
 ·omega
 ·exact ⟨g,cap,hv,hb,(Array.getElem?_eq_some_iff.1 hg).1⟩
theorem zqdb {w:World} {B g cap n:Nat} {l:List Int} (h:w.ownsRow B 5 1 (.slice (some ⟨g,0,none⟩) n cap) n (l.map (Value.int .u8))) (j:Nat) (x:Int) :
  (w.setCell ⟨g,j,none⟩ (.int .u8 x)).ownsRow B 5 1 (.slice (some ⟨g,0,none⟩) n cap) n ((l.set j x).map (Value.int .u8)) ∧ w.grownBy (w.setCell ⟨g,j,none⟩ (.int .u8 x)) (some g):=by
 have:=World.ownsRow.stored h j (.int .u8 x);rw [List.map_set]; exact this
theorem zqbr {w:World} {B g cap n:Nat} {l:List Int} (h:w.ownsRow B 5 1 (.slice (some ⟨g,0,none⟩) n cap) n (l.map (Value.int .u8))) {j:Nat} (hj:j < l.length) :
  w.cell? ⟨g,j,none⟩ = some (.int .u8 (l.getD j 0)) ∧ w.frozen? ⟨g,j,none⟩ = false:=by
 have h1:=h.1;rw [List.length_map,Nat.mul_one] at h1;refine ⟨?_,World.ownsRow.frozenAt h j⟩;rw [World.ownsRow.cellAt h j (by omega),List.getElem?_map,List.getElem?_eq_getElem hj,List.getD,List.getElem?_eq_getElem hj]
 rfl
theorem own0 (w:World) (B:Nat):BOwn w B (.slice none 0 0) []:=⟨by simp,.inl ⟨rfl,rfl⟩⟩
section
variable {P : Program} (w : World)
theorem zqiy (base:Nat) (t ty e:TypeId) (i:TypeInfo) (size:Nat) (ht:P.underlying t = some (.slice e)) (hi:P.info? e = some i)
  (v:Value) (n:Nat) (xs:List Value) (hown:w.ownsRow base e size v n xs) (c:Nat):(Builtin.append_ #[t,t] ty #[v,.slice none 0 c]).run P w = .ok v w:=by
 rcases hown.2 with ⟨rfl,rfl⟩ | ⟨g,cap,cur,rfl,_,_,hnc,_⟩
 ·simp [Builtin.append_,run_underlying ht,sizeOf,typeInfo,hi,Builtin.lenOf,Builtin.firstCells]
 ·simp [Builtin.append_,run_underlying ht,sizeOf,typeInfo,hi,Builtin.lenOf,Builtin.firstCells,hnc,storeCells]
theorem zqg9 (base:Nat) (t ty e:TypeId) (i:TypeInfo) (z:Value) (bytes:Nat) (ht:P.underlying t = some (.slice e)) (hi:P.info? e = some i) (hz:i.zero = some z) (hsize:i.size = 1) (hby:i.bytes = bytes) (hzs:z.cells.size = 1)
  (k:IntKind) (v v2:Value) (zs ns:List Int) (hown:w.ownsRow base e 1 v zs.length (zs.map (Value.int k))) (hv2:Ints k w v2 ns) (h63:zs.length + ns.length ≤ maxLen) (hbytes:(zs.length + ns.length) * bytes ≤ 140737488355328) (hbase:base ≤ w.heap.size) :
  ∃ v' w',(Builtin.append_ #[t,t] ty #[v,v2]).run P w = .ok v' w' ∧ w'.ownsRow base e 1 v' (zs ++ ns).length ((zs ++ ns).map (Value.int k)) ∧ w.grownBy w' v.ownBlock:=by
 obtain ⟨a,cap,rfl,hc,ha⟩:=hv2;have one:∀ u ∈ ns.map (Value.int k),u.oneCell' = true:=by
  intro u hu; obtain ⟨x,_,rfl⟩:=List.mem_map.1 hu; rfl
 have fin:∀ (v':Value) (w':World),w'.ownsRow base e 1 v' (zs.length + ns.length) (zs.map (Value.int k) ++ ns.map (Value.int k)) → w'.ownsRow base e 1 v' (zs ++ ns).length ((zs ++ ns).map (Value.int k)):=fun v' w' h => by
  simpa using h
 cases a with
 | none =>
  have hn:ns = []:=by
   rcases ha with h | ⟨b,off,h,_⟩
   ·exact h
   ·cases h
  subst hn;exact ⟨v,w,zqiy w base t ty e i 1 ht hi v _ _ hown cap,fin v w (by simpa using hown),World.grownBy.refl w _⟩
 | some ad =>
  have hnews:∀ j u,(ns.map (Value.int k))[j]? = some u → w.cell? (ad.add j) = some u:=fun j u hj => by
   rcases ha with h | ⟨b,off,h,_,hcell⟩
   ·subst h; simp at hj
   ·simp only [Option.some.injEq] at h;subst h;rw [List.getElem?_map] at hj;obtain ⟨x,hx,rfl⟩:=Option.map_eq_some_iff.1 hj;have hl:=(List.getElem?_eq_some_iff.1 hx).1;have hh:=hcell j hl;have e1:ns.getD j 0 = x:=by simp [List.getD,hx]
    rw [e1] at hh
    by_cases h0:j = 0
    ·subst h0; simpa [Addr.add] using hh
    ·simpa [Addr.add,h0] using hh
  obtain ⟨v',w',hrun,r1,r2,_⟩:=run_append_own (P:=P) w base t ty e i z 1 bytes ht hi hz hsize hby hzs (by omega) v zs.length _ hown ad ns.length cap (ns.map (Value.int k)) (by simp) hnews one h63 hbytes hbase
  exact ⟨v',w',hrun,fin v' w' r1,r2⟩
theorem zqak {ops:Array Oper} {rest:List Oper} {o:Oper} {a:Act} {Q:Exit → Act → World → Prop} (hw:Region.wanted o (yielded ops a.tmps) = true) (s x:Operand) (t:TypeId)
  (ho:o.op = .call { callee:=.builtin .append,args:=#[s,x],argTypes:=#[t,t] })
  (base:Nat) (e:TypeId) (i:TypeInfo) (z:Value) (bytes:Nat) (ht:P.underlying t = some (.slice e)) (hi:P.info? e = some i) (hz:i.zero = some z) (hsize:i.size = 1) (hby:i.bytes = bytes) (hzs:z.cells.size = 1)
  (k:IntKind) (v v2:Value) (zs ns:List Int) (hs:a.eval s = v) (hx:a.eval x = v2) (hown:w.ownsRow base e 1 v zs.length (zs.map (Value.int k))) (hv2:Ints k w v2 ns) (h63:zs.length + ns.length ≤ maxLen) (hbytes:(zs.length + ns.length) * bytes ≤ 140737488355328) (hbase:base ≤ w.heap.size)
  (h:∀ v' w',w'.ownsRow base e 1 v' (zs ++ ns).length ((zs ++ ns).map (Value.int k)) → w.grownBy w' v.ownBlock → wpList P ops Q rest (a.put o.dst v') w'):wpList P ops Q (o :: rest) a w :=
 BigFrame.wpList_want hw fun _ hK => by
  obtain ⟨v',w',hrun,r1,r2⟩:=zqg9 (P:=P) w base t o.type e i z bytes ht hi hz hsize hby hzs k v v2 zs ns hown hv2 h63 hbytes hbase;unfold Oper.wp;simp [execOp,ho,resolve,invoke,builtin,hs,hx,hrun,Result.andThen];exact hK _ _ (h v' w' r1 r2)
theorem zqa8 {ops:Array Oper} {o:Oper} {a:Act} {K:Act → World → Prop} {Q:Exit → Act → World → Prop} {E:Prop} (hgd:o.guard = none) (s x:Operand) (t:TypeId)
  (ho:o.op = .call { callee:=.builtin .append,args:=#[s,x],argTypes:=#[t,t] })
  (base:Nat) (e:TypeId) (i:TypeInfo) (z:Value) (bytes:Nat) (ht:P.underlying t = some (.slice e)) (hi:P.info? e = some i) (hz:i.zero = some z) (hsize:i.size = 1) (hby:i.bytes = bytes) (hzs:z.cells.size = 1)
  (k:IntKind) (v v2:Value) (zs ns:List Int) (hs:a.eval s = v) (hx:a.eval x = v2) (hown:w.ownsRow base e 1 v zs.length (zs.map (Value.int k))) (hv2:Ints k w v2 ns) (h63:zs.length + ns.length ≤ maxLen) (hbytes:(zs.length + ns.length) * bytes ≤ 140737488355328) (hbase:base ≤ w.heap.size)
  (h:∀ v' w',w'.ownsRow base e 1 v' (zs ++ ns).length ((zs ++ ns).map (Value.int k)) → w.grownBy w' v.ownBlock → K (a.put o.dst v') w') :
  if Region.wanted o (yielded ops a.tmps) = true then Oper.wp P o a w K Q else E:=by
 have hw:Region.wanted o (yielded ops a.tmps) = true:=by simp [Region.wanted,hgd]
 rw [if_pos hw];obtain ⟨v',w',hrun,r1,r2⟩:=zqg9 (P:=P) w base t o.type e i z bytes ht hi hz hsize hby hzs k v v2 zs ns hown hv2 h63 hbytes hbase;unfold Oper.wp;simp [execOp,ho,resolve,invoke,builtin,hs,hx,hrun,Result.andThen];exact h v' w' r1 r2
end
theorem zqey {w w2:World} {o:Obj} (hg:(w.alloc o).grownBy w2 (some w.heap.size)):Below w.heap.size w w2 :=
 (zqab w o).grown hg (by simp) (fun k hk => by have e:w.heap.size = k:=Option.some.inj hk; omega)
def ofS (s:ByteArray):List Int:=s.data.toList.map fun c => (c.toNat:Int)
theorem zqlk (s:ByteArray):(ofS s).length = s.size:=by simp [ofS]
def BytesB (B:Nat) (w:World) (l:List Int) (e:Ending) (w':World):Prop:=(∃ v,e = .returned v ∧ BOwn w' B v l) ∧ Below B w w'
def BytesP (w:World) (l:List Int):Ending → World → Prop:=BytesB w.heap.size w l
end Go.Proofs.YtpgchfihedcdkaaGreatDoor
namespace Go.Proofs.YtpgchfihedcdkaaGreatDoor
set_option maxRecDepth 100000
open Go.RowKit
set_option linter.unusedVariables false
structure Wh where
 sum:Int
 abs:Int
 sq:List Int
 mn:Int
 mx:Int
structure Re where
 sum:List Int
 mn:Nat
 mx:Nat
structure Ce where
 key:Int
 cnt:Int
 is:List Wh
 ns:List Re
def wh0:Wh:=⟨0,0,[],0,0⟩
def re0:Re:=⟨[],0,0⟩
def wg (l:List Wh) (i:Nat):Wh:=l.getD i wh0
def rg (l:List Re) (i:Nat):Re:=l.getD i re0
theorem zqbl {l:List Wh} {i:Nat} (h:i < l.length):wg l i = l[i]:=by simp [wg,List.getD,List.getElem?_eq_getElem h]
theorem zqa3 {l:List Re} {i:Nat} (h:i < l.length):rg l i = l[i]:=by simp [rg,List.getD,List.getElem?_eq_getElem h]
structure WhAt (w:World) (b o:Nat) (q:Value) (x:Wh):Prop where
 c0:w.cell? ⟨b,o,none⟩ = some (.int .i64 x.sum)
 c1:w.cell? ⟨b,o + 1,none⟩ = some (.int .i64 x.abs)
 c2:w.cell? ⟨b,o + 2,none⟩ = some q
 c3:w.cell? ⟨b,o + 3,none⟩ = some (.int .i64 x.mn)
 c4:w.cell? ⟨b,o + 4,none⟩ = some (.int .i64 x.mx)
 s:Ints .u32 w q x.sq
structure ReAt (w:World) (b o:Nat) (q:Value) (x:Re):Prop where
 c0:w.cell? ⟨b,o,none⟩ = some q
 c1:w.cell? ⟨b,o + 1,none⟩ = some (.float .f64 x.mn)
 c2:w.cell? ⟨b,o + 2,none⟩ = some (.float .f64 x.mx)
 s:Ints .u8 w q x.sum
theorem WhAt.below {w w':World} {b o:Nat} {q:Value} {x:Wh} (h:WhAt w b o q x) (hb:Below w.heap.size w w'):WhAt w' b o q x :=
 ⟨cell_later hb h.c0,cell_later hb h.c1,cell_later hb h.c2,cell_later hb h.c3,cell_later hb h.c4,h.s.below hb⟩
theorem ReAt.below {w w':World} {b o:Nat} {q:Value} {x:Re} (h:ReAt w b o q x) (hb:Below w.heap.size w w'):ReAt w' b o q x :=
 ⟨cell_later hb h.c0,cell_later hb h.c1,cell_later hb h.c2,h.s.below hb⟩
def Wholes (w:World) (v:Value) (l:List Wh):Prop :=
 ∃ a cap,v = .slice a l.length cap ∧ l.length ≤ cap ∧ l.length ≤ 9223372036854775807 ∧ (l = [] ∨ ∃ b off,a = some ⟨b,off,none⟩ ∧ b < w.heap.size ∧ ∀ i,i < l.length → ∃ q,WhAt w b (off + i * 5) q (wg l i))
def Reals (w:World) (v:Value) (l:List Re):Prop :=
 ∃ a cap,v = .slice a l.length cap ∧ l.length ≤ cap ∧ l.length ≤ 9223372036854775807 ∧ (l = [] ∨ ∃ b off,a = some ⟨b,off,none⟩ ∧ b < w.heap.size ∧ ∀ i,i < l.length → ∃ q,ReAt w b (off + i * 3) q (rg l i))
theorem Wholes.below {w w':World} {v:Value} {l:List Wh} (h:Wholes w v l) (hb:Below w.heap.size w w'):Wholes w' v l:=by
 obtain ⟨a,cap,rfl,h1,h2,h3⟩:=h;refine ⟨a,cap,rfl,h1,h2,h3.imp id ?_⟩;rintro ⟨b,off,rfl,hlt,hc⟩;exact ⟨b,off,rfl,Nat.lt_of_lt_of_le hlt hb.size,fun i hi => (hc i hi).imp fun q h => h.below hb⟩
theorem Reals.below {w w':World} {v:Value} {l:List Re} (h:Reals w v l) (hb:Below w.heap.size w w'):Reals w' v l:=by
 obtain ⟨a,cap,rfl,h1,h2,h3⟩:=h;refine ⟨a,cap,rfl,h1,h2,h3.imp id ?_⟩;rintro ⟨b,off,rfl,hlt,hc⟩;exact ⟨b,off,rfl,Nat.lt_of_lt_of_le hlt hb.size,fun i hi => (hc i hi).imp fun q h => h.below hb⟩
theorem Wholes.at {w:World} {a:Option Addr} {n cap:Nat} {l:List Wh} (h:Wholes w (.slice a n cap) l) {i:Nat} (hi:i < l.length):∃ b off q,a = some ⟨b,off,none⟩ ∧ WhAt w b (off + i * 5) q (wg l i):=by
 obtain ⟨a',cap',e,-,-,h3⟩:=h;injection e with e1 e2 e3;subst e1;rcases h3 with h3 | ⟨b,off,rfl,-,hc⟩
 ·rw [h3] at hi; cases hi
 ·obtain ⟨q,hq⟩:=hc i hi; exact ⟨b,off,q,rfl,hq⟩
theorem Reals.at {w:World} {a:Option Addr} {n cap:Nat} {l:List Re} (h:Reals w (.slice a n cap) l) {i:Nat} (hi:i < l.length):∃ b off q,a = some ⟨b,off,none⟩ ∧ ReAt w b (off + i * 3) q (rg l i):=by
 obtain ⟨a',cap',e,-,-,h3⟩:=h;injection e with e1 e2 e3;subst e1;rcases h3 with h3 | ⟨b,off,rfl,-,hc⟩
 ·rw [h3] at hi; cases hi
 ·obtain ⟨q,hq⟩:=hc i hi; exact ⟨b,off,q,rfl,hq⟩
abbrev CeV (c:Ce) (I N:Value):Value:=.agg #[.int .u64 c.key,.int .i64 c.cnt,I,N]
abbrev CeO (c:Ce) (I N:Value):Obj:=.cells #[.int .u64 c.key,.int .i64 c.cnt,I,N] 32
structure CeM (w:World) (I N:Value) (c:Ce):Prop where
 i:Wholes w I c.is
 n:Reals w N c.ns
theorem CeM.below {w w':World} {I N:Value} {c:Ce} (h:CeM w I N c) (hb:Below w.heap.size w w'):CeM w' I N c:=⟨h.i.below hb,h.n.below hb⟩
theorem CeM.slices {w:World} {I N:Value} {c:Ce} (h:CeM w I N c):(∃ a k,I = .slice a c.is.length k) ∧ ∃ a k,N = .slice a c.ns.length k:=by
 obtain ⟨⟨a,k,h1,-⟩,⟨a2,k2,h2,-⟩⟩:=h;exact ⟨⟨a,k,h1⟩,a2,k2,h2⟩
def I64 (x:Int):Prop:=-9223372036854775808 ≤ x ∧ x ≤ 9223372036854775807
structure WhW (x:Wh):Prop where
 sum:I64 x.sum
 abs:I64 x.abs
 sq:∀ z ∈ x.sq,0 ≤ z ∧ z ≤ 4294967295
 len:x.sq.length ≤ 9223372036854775807
 mn:I64 x.mn
 mx:I64 x.mx
structure ReW (x:Re):Prop where
 sum:Bt x.sum
 len:x.sum.length ≤ 9223372036854775807
 mn:W64 x.mn
 mx:W64 x.mx
structure CeW (c:Ce):Prop where
 key:0 ≤ c.key ∧ c.key ≤ 18446744073709551615
 cnt:I64 c.cnt
 is:∀ x ∈ c.is,WhW x
 ns:∀ x ∈ c.ns,ReW x
theorem CeW.wg {c:Ce} (h:CeW c) {i:Nat} (hi:i < c.is.length):WhW (wg c.is i):=by rw [zqbl hi]; exact h.is _ (List.getElem_mem hi)
theorem CeW.rg {c:Ce} (h:CeW c) {i:Nat} (hi:i < c.ns.length):ReW (rg c.ns i):=by rw [zqa3 hi]; exact h.ns _ (List.getElem_mem hi)
def BoxC (w:World) (B:Nat) (c:Ce) (I N:Value):Prop:=w.heap[B]? = some (.cells #[.int .u64 c.key,.int .i64 c.cnt,I,N] 32 (0,0))
theorem BoxC.reads {w:World} {B:Nat} {c:Ce} {I N:Value} (h:BoxC w B c I N):w.cell? ⟨B,0,none⟩ = some (.int .u64 c.key) ∧ w.cell? ⟨B,1,none⟩ = some (.int .i64 c.cnt) ∧ w.cell? ⟨B,2,none⟩ = some I ∧ w.cell? ⟨B,3,none⟩ = some N:=by
 unfold BoxC at h;refine ⟨by simp [World.cell?,h],by simp [World.cell?,h],by simp [World.cell?,h],by simp [World.cell?,h]⟩
theorem BoxC.below {w w':World} {B:Nat} {c:Ce} {I N:Value} (h:BoxC w B c I N) (hb:Below w.heap.size w w'):BoxC w' B c I N:=by
 unfold BoxC at *; rw [hb.block B (Array.getElem?_eq_some_iff.1 h).1]; exact h
theorem zqeo (w:World) (c:Ce) (I N:Value):BoxC (w.alloc (CeO c I N)) w.heap.size c I N:=heap_alloc_new w _
def lightC (c:Ce):Bool:=decide (c.is.length ≤ 10) && decide (c.ns.length ≤ 10) && ((List.range c.is.length).all fun k => decide ((wg c.is k).sq.length ≤ 20)) && (List.range c.ns.length).all fun k => decide ((rg c.ns k).sum.length ≤ 300)
theorem zqmo {c:Ce}:lightC c = true ↔ c.is.length ≤ 10 ∧ c.ns.length ≤ 10 ∧ (∀ k,k < c.is.length → (wg c.is k).sq.length ≤ 20) ∧ ∀ k,k < c.ns.length → (rg c.ns k).sum.length ≤ 300:=by
 simp [lightC,and_assoc]
end Go.Proofs.YtpgchfihedcdkaaGreatDoor
