/- Contracts that the law leans on: Codeb. -/
import Derived.Lib.ItoaNum
import Derived.OwnWalk
import Derived.Deep.AppendLies
import Derived.Deep.RegionLawGrows
import Derived.Test.YtafmghloohhaeaaGreatDoorPt02
import Derived.Test.YtafmghloohhaeaaGreatDoorPt06
namespace Go.Proofs.YtafmghloohhaeaaGreatDoor
set_option maxRecDepth 100000
set_option linter.unusedVariables false
def Bt (l:List Int):Prop:=∀ x ∈ l,0 ≤ x ∧ x ≤ 255
theorem zql5:Bt []:=fun _ h => by cases h
theorem Bt.append {a b:List Int} (h:Bt a) (k:Bt b):Bt (a ++ b):=fun x hx => by
 rcases List.mem_append.1 hx with h' | h'
 ·exact h x h'
 ·exact k x h'
theorem Bt.cons {c:Int} {l:List Int} (h0:0 ≤ c) (h1:c ≤ 255) (h:Bt l):Bt (c :: l):=fun x hx => by
 rcases List.mem_cons.1 hx with rfl | h'
 ·exact ⟨h0,h1⟩
 ·exact h x h'
theorem Bt.head {c:Int} {l:List Int} (h:Bt (c :: l)):0 ≤ c ∧ c ≤ 255:=h c (by simp)
theorem Bt.tail {c:Int} {l:List Int} (h:Bt (c :: l)):Bt l:=fun x hx => h x (by simp [hx])
theorem Bt.tl {l:List Int} (h:Bt l):Bt l.tail:=fun x hx => h x (List.mem_of_mem_tail hx)
theorem Bt.drop {l:List Int} (h:Bt l) (n:Nat):Bt (l.drop n):=fun x hx => h x (List.mem_of_mem_drop hx)
theorem Bt.getD {l:List Int} (h:Bt l) {d:Int} (d0:0 ≤ d) (d1:d ≤ 255) (i:Nat):0 ≤ l.getD i d ∧ l.getD i d ≤ 255:=by
 by_cases hi:i < l.length
 ·rw [List.getD,List.getElem?_eq_getElem hi]; exact h _ (List.getElem_mem hi)
 ·rw [List.getD,List.getElem?_eq_none (by omega)]; exact ⟨d0,d1⟩
theorem zqbo (n:Nat):0 < 256 ^ n:=Nat.pow_pos (by decide)
def bigN (x:Nat):Nat → List Int
 | 0 => []
 | n + 1 => ((x / 256 ^ n % 256:Nat):Int) :: bigN x n
theorem zqat (x:Nat):∀ n,(bigN x n).length = n
 | 0 => rfl
 | n + 1 => by simp [bigN,zqat x n]
theorem zqc9 (x:Nat):∀ n,Bt (bigN x n)
 | 0 => zql5
 | n + 1 => Bt.cons (by omega) (by omega) (zqc9 x n)
theorem zqki (x:Nat):∀ n i,i < n → (bigN x n).getD i 0 = ((x / 256 ^ (n - 1 - i) % 256:Nat):Int)
 | 0,i,h => by omega
 | n + 1,0,_ => by simp [bigN]
 | n + 1,i + 1,h => by
  rw [bigN,List.getD_cons_succ,zqki x n i (by omega)]
  have:n + 1 - 1 - (i + 1) = n - 1 - i:=by omega
  rw [this]
theorem zqr8 (x n i:Nat) (h:i < n):(bigN x n).take (i + 1) = (bigN x n).take i ++ [((x / 256 ^ (n - 1 - i) % 256:Nat):Int)]:=by
 have hl:i < (bigN x n).length:=by rw [zqat]; exact h
 have:=zqki x n i h;rw [List.getD,List.getElem?_eq_getElem hl] at this;have e:(bigN x n)[i] = ((x / 256 ^ (n - 1 - i) % 256:Nat):Int):=this;rw [List.take_succ_eq_append_getElem hl,e]
theorem zqhx (x m:Nat):∀ n,n ≤ m → bigN (x % 256 ^ m) n = bigN x n
 | 0,_ => rfl
 | n + 1,h => by
  rw [bigN,bigN,zqhx x m n (by omega)]
  have e:256 ^ m = 256 ^ n * (256 * 256 ^ (m - 1 - n)):=by
   rw [show m = n + (1 + (m - 1 - n)) by omega,Nat.pow_add,Nat.pow_add]
   have:n + (1 + (m - 1 - n)) - 1 - n = m - 1 - n:=by omega
   rw [this]
  rw [e,Nat.mod_mul_right_div_self,Nat.mod_mul_right_mod]
def bytesN (x:Nat):Nat:=(Lib.bitLen x + 7) / 8
theorem pow_8 (n:Nat):256 ^ n = 2 ^ (8 * n):=by rw [show (256:Nat) = 2 ^ 8 by decide,← Nat.pow_mul]
def IsLen (x n:Nat):Prop:=x < 256 ^ n ∧ (n = 0 ∨ 256 ^ (n - 1) ≤ x)
theorem IsLen.unique {x n m:Nat} (h:IsLen x n) (k:IsLen x m):n = m:=by
 have key:∀ {n m:Nat},IsLen x n → IsLen x m → ¬ n < m:=by
  intro n m h k hlt;rcases k.2 with h0 | h0
  ·omega
  ·have:256 ^ n ≤ 256 ^ (m - 1):=Nat.pow_le_pow_right (by decide) (by omega)
   have:=h.1;omega
 have:=key h k;have:=key k h;omega
theorem zqb2 (x:Nat) (h:x < 18446744073709551616):IsLen x (bytesN x):=by
 by_cases h0:x = 0
 ·subst h0; unfold IsLen bytesN; decide
 ·obtain ⟨b1,b2,b3⟩:=Lib.bitLenAux_bounds 64 x h h0;have e:Lib.bitLen x = Lib.bitLenAux 64 x:=rfl;unfold IsLen bytesN;rw [e];generalize Lib.bitLenAux 64 x = b at b1 b2 b3;refine ⟨?_,.inr ?_⟩
  ·rw [pow_8]; exact Nat.lt_of_lt_of_le b3 (Nat.pow_le_pow_right (by decide) (by omega))
  ·rw [pow_8]; exact Nat.le_trans (Nat.pow_le_pow_right (by decide) (by omega)) b2
theorem zqau (x:Nat) (h:x < 18446744073709551616):bytesN x ≤ 8:=by
 have:=Lib.bitLen_le x 64 (by decide) h
 unfold bytesN; omega
def encU (x:Nat):List Int:=(bytesN x:Int) :: bigN x (bytesN x)
def encI (x:Int):List Int:=if 0 ≤ x then (9 + bytesN x.toNat:Int) :: bigN x.toNat (bytesN x.toNat) else (8 - bytesN (-1 - x).toNat:Int) :: bigN (x % 18446744073709551616).toNat (bytesN (-1 - x).toNat)
def encF (k:Nat):List Int:=bigN k 8
theorem zqg9 {x:Nat} (h:x < 18446744073709551616):Bt (encU x):=Bt.cons (by omega) (by have:=zqau x h; omega) (zqc9 _ _)
theorem zqa3 {x:Nat} (h:x < 18446744073709551616):(encU x).length = bytesN x + 1 ∧ (encU x).length ≤ 9:=by
 have:=zqau x h;simp [encU,zqat]; omega
def headI (x:Int):Nat:=if 0 ≤ x then x.toNat else (-1 - x).toNat
theorem zqh7 {x:Int} (h0:-9223372036854775808 ≤ x) (h1:x ≤ 9223372036854775807):headI x < 9223372036854775808:=by unfold headI; split <;> omega
theorem zqfe {x:Int} (h0:-9223372036854775808 ≤ x) (h1:x ≤ 9223372036854775807):Bt (encI x):=by
 have h:=zqh7 h0 h1;unfold headI at h;unfold encI
 split at h
 ·rename_i hx;have:=zqau x.toNat (by omega)
  rw [if_pos hx]; exact Bt.cons (by omega) (by omega) (zqc9 _ _)
 ·rename_i hx;have:=zqau (-1 - x).toNat (by omega)
  rw [if_neg hx]; exact Bt.cons (by omega) (by omega) (zqc9 _ _)
theorem zqaz {x:Int} (h0:-9223372036854775808 ≤ x) (h1:x ≤ 9223372036854775807):(encI x).length = bytesN (headI x) + 1 ∧ (encI x).length ≤ 9:=by
 have h:=zqh7 h0 h1;have:=zqau (headI x) (by omega)
 unfold encI headI at *
 split
 ·rename_i hx; rw [if_pos hx] at this; simp [zqat]; omega
 ·rename_i hx; rw [if_neg hx] at this; simp [zqat]; omega
theorem zqk3 (x n:Nat):x % 256 ^ (n + 1) = x / 256 ^ n % 256 * 256 ^ n + x % 256 ^ n:=by
 rw [Nat.pow_succ,Nat.mod_mul]; rw [Nat.mul_comm (256 ^ n)]; omega
theorem zqz4 {x:Int} {n:Nat} (hn:n ≤ 8) (h0:x < 0) (h:(-1 - x).toNat < 256 ^ n):(((x % 18446744073709551616).toNat % 256 ^ n:Nat):Int) = x + (256 ^ n:Nat) ∧ 0 ≤ x + (256 ^ n:Nat):=by
 have e:(18446744073709551616:Int) = (256 ^ n:Nat) * (256 ^ (8 - n):Nat):=by
  rw [← Int.natCast_mul,← Nat.pow_add,show n + (8 - n) = 8 by omega]; rfl
 have h2:0 ≤ x % 18446744073709551616:=Int.emod_nonneg _ (by decide)
 have e2:(((x % 18446744073709551616).toNat % 256 ^ n:Nat):Int) = x % (256 ^ n:Nat):=by
  rw [Int.natCast_emod,Int.toNat_of_nonneg h2,e,Int.emod_emod_of_dvd _ (Int.dvd_mul_right _ _)]
 have e3:x % (256 ^ n:Nat) = x + (256 ^ n:Nat):=by
  rw [← Int.add_emod_right,Int.emod_eq_of_lt (by omega) (by omega)]
 refine ⟨e2.trans e3,by omega⟩
def fillN (t:List Int) (f:Int):Nat → Int
 | 0 => 0
 | n + 1 => fillN t f n * 256 + t.getD n f
theorem p256 (n:Nat):(0:Int) < 256 ^ n:=Int.pow_pos (by decide)
theorem zqao {t:List Int} (h:Bt t) {f:Int} (f0:0 ≤ f) (f1:f ≤ 255):∀ n,0 ≤ fillN t f n ∧ fillN t f n < 256 ^ n
 | 0 => by simp [fillN]
 | n + 1 => by
  have ih:=zqao h f0 f1 n;have:=h.getD f0 f1 n;rw [fillN,Int.pow_succ]; omega
theorem zqbx (t:List Int) (f:Int):∀ n,fillN t f (n + 1) = t.getD 0 f * 256 ^ n + fillN t.tail f n
 | 0 => by simp [fillN]
 | n + 1 => by
  have e:t.getD (n + 1) f = t.tail.getD n f:=by cases t <;> simp
  rw [fillN,zqbx t f n,fillN,Int.pow_succ,Int.add_mul,e,Int.mul_assoc]; omega
theorem zqgf {t:List Int} (f:Int):∀ n,n ≤ t.length → fillN t f n = fillN t 0 n
 | 0,_ => rfl
 | n + 1,h => by
  rw [fillN,fillN,zqgf f n (by omega)]
  simp [List.getD,List.getElem?_eq_getElem (show n < t.length by omega)]
theorem zqop {t:List Int} (h:Bt t):∀ n,fillN t 0 n ≤ fillN t 255 n
 | 0 => by simp [fillN]
 | n + 1 => by
  have:=zqop h n;have:t.getD n 0 ≤ t.getD n 255:=by
   by_cases hn:n < t.length
   ·simp [List.getD,List.getElem?_eq_getElem hn]
   ·simp [List.getD,List.getElem?_eq_none (Nat.le_of_not_lt hn)]
  rw [fillN,fillN]; omega
theorem zqea (x:Nat) (more:List Int) (f:Int):∀ n,fillN (bigN x n ++ more) f n = ((x % 256 ^ n:Nat):Int)
 | 0 => by simp [fillN,Nat.mod_one]
 | n + 1 => by
  rw [zqbx,bigN];simp only [List.cons_append,List.getD_cons_zero,List.tail_cons];rw [zqea x more f n,zqk3];simp
def getU:List Int → Int × Nat × Nat
 | [] => (0,0,5)
 | h :: t => if 8 < h ∨ (0 < h ∧ t.getD 0 1 = 0) then (0,0,6) else if t.length < h.toNat then (0,0,5) else (fillN t 0 h.toNat,h.toNat + 1,0)
theorem zqds (h:Int) (t:List Int):getU (h :: t) = if 8 < h ∨ (0 < h ∧ t.getD 0 1 = 0) then (0,0,6) else if t.length < h.toNat then (0,0,5) else (fillN t 0 h.toNat,h.toNat + 1,0):=rfl
theorem zqmi {x:Nat} (hx:x < 18446744073709551616) (more:List Int):getU (encU x ++ more) = ((x:Int),(encU x).length,0):=by
 have ix:=zqb2 x hx;have hl:=zqau x hx;have e:=(zqa3 hx).1;rw [e];unfold encU;generalize bytesN x = n at *;rw [List.cons_append,zqds];have hlen:(bigN x n ++ more).length = n + more.length:=by rw [List.length_append,zqat]
 have hz:¬ (8 < (n:Int) ∨ (0 < (n:Int) ∧ (bigN x n ++ more).getD 0 1 = 0)):=by
  rintro (h | ⟨h1,h2⟩)
  ·omega
  ·obtain ⟨m,rfl⟩:=Nat.exists_eq_succ_of_ne_zero (show n ≠ 0 by omega)
   rw [bigN,List.cons_append,List.getD_cons_zero] at h2;rcases ix.2 with h0 | h0
   ·omega
   ·have:=ix.1;simp only [Nat.succ_eq_add_one,Nat.add_sub_cancel] at h0 this;have h3:x / 256 ^ m < 256:=by rw [Nat.div_lt_iff_lt_mul (zqbo m)]; rw [Nat.pow_succ] at this; omega
    have h4:0 < x / 256 ^ m:=Nat.div_pos h0 (zqbo m);omega
 rw [if_neg hz,if_neg (by rw [hlen]; simp),show ((n:Int)).toNat = n by omega,zqea,Nat.mod_eq_of_lt ix.1]
def badI (h:Int) (t:List Int) (n:Nat):Prop:=8 < n ∨ (0 < n ∧ 0 < t.length ∧ (if h < 9 then t.getD 0 0 = 255 ∨ (n = 8 ∧ t.getD 0 0 < 128) else t.getD 0 0 = 0 ∨ (n = 8 ∧ 127 < t.getD 0 0)))
instance (h:Int) (t:List Int) (n:Nat):Decidable (badI h t n):=by unfold badI; infer_instance
def sizeI (h:Int):Nat:=if h < 9 then (8 - h).toNat else (h - 9).toNat
def getI:List Int → Int × Nat × Nat
 | [] => (0,0,5)
 | h :: t => if badI h t (sizeI h) then (0,0,6) else if t.length < sizeI h then (0,0,5) else (if h < 9 then fillN t 0 (sizeI h) - 256 ^ sizeI h else fillN t 0 (sizeI h),sizeI h + 1,0)
theorem zqb5 (h:Int) (t:List Int):getI (h :: t) = if badI h t (sizeI h) then (0,0,6) else if t.length < sizeI h then (0,0,5) else (if h < 9 then fillN t 0 (sizeI h) - 256 ^ sizeI h else fillN t 0 (sizeI h),sizeI h + 1,0):=rfl
theorem zq0u {x m:Nat} (h:x < 256 ^ (m + 1)):x / 256 ^ m < 256:=by
 rw [Nat.div_lt_iff_lt_mul (zqbo m)]; rw [Nat.pow_succ] at h; omega
theorem zqwv {x:Int} (h0:-9223372036854775808 ≤ x) (h1:x ≤ 9223372036854775807) (more:List Int):getI (encI x ++ more) = (x,(encI x).length,0):=by
 have e:=(zqaz h0 h1).1;have hh:=zqh7 h0 h1;have ix:=zqb2 (headI x) (by omega)
 have hl:=zqau (headI x) (by omega)
 rw [e];unfold encI;unfold headI at *
 by_cases hx:0 ≤ x
 ·rw [if_pos hx] at *;rw [if_pos hx];obtain ⟨X,rfl⟩:=Int.eq_ofNat_of_zero_le hx;simp only [Int.toNat_natCast] at *;generalize bytesN X = n at *;rw [List.cons_append,zqb5];have hs:sizeI (9 + (n:Int)) = n:=by unfold sizeI; rw [if_neg (by omega)]; omega
  have hlen:(bigN X n ++ more).length = n + more.length:=by rw [List.length_append,zqat]
  have hz:¬ badI (9 + (n:Int)) (bigN X n ++ more) n:=by
   rintro (h | ⟨p1,p2,p3⟩)
   ·omega
   ·rw [if_neg (by omega)] at p3
    obtain ⟨m,rfl⟩:=Nat.exists_eq_succ_of_ne_zero (show n ≠ 0 by omega)
    simp only [Nat.succ_eq_add_one] at *;rw [bigN,List.cons_append,List.getD_cons_zero] at p3;have t1:=zq0u ix.1;rcases ix.2 with q | q
    ·omega
    ·simp only [Nat.add_sub_cancel] at q;have h4:0 < X / 256 ^ m:=Nat.div_pos q (zqbo m);rcases p3 with p | ⟨p,p'⟩
     ·omega
     ·obtain rfl:m = 7:=by omega
      have:X / 256 ^ 7 < 128:=by rw [Nat.div_lt_iff_lt_mul (zqbo 7)]; exact hh
      omega
  rw [hs,if_neg hz,if_neg (by rw [hlen]; simp),if_neg (by omega),zqea,Nat.mod_eq_of_lt ix.1]
 ·rw [if_neg hx] at *;rw [if_neg hx];generalize hn:bytesN (-1 - x).toNat = n at *;have hlow:=zqz4 hl (by omega) ix.1
  rw [List.cons_append,zqb5];have hs:sizeI (8 - (n:Int)) = n:=by unfold sizeI; rw [if_pos (by omega)]; omega
  generalize (x % 18446744073709551616).toNat = X at *;have hlen:(bigN X n ++ more).length = n + more.length:=by rw [List.length_append,zqat]
  have hz:¬ badI (8 - (n:Int)) (bigN X n ++ more) n:=by
   rintro (h | ⟨p1,p2,p3⟩)
   ·omega
   ·rw [if_pos (by omega)] at p3
    obtain ⟨m,rfl⟩:=Nat.exists_eq_succ_of_ne_zero (show n ≠ 0 by omega)
    simp only [Nat.succ_eq_add_one] at *;rw [bigN,List.cons_append,List.getD_cons_zero] at p3;have hpos:=zqbo m;have hm:=Nat.mod_lt X hpos;have hsp:=zqk3 X m;have hr:X / 256 ^ m % 256 < 256:=Nat.mod_lt _ (by decide)
    have hpw:256 ^ (m + 1) = 256 ^ m * 256:=Nat.pow_succ ..;rcases ix.2 with q | q
    ·omega
    ·simp only [Nat.add_sub_cancel] at q;rcases p3 with p | ⟨p,p'⟩
     ·rw [show X / 256 ^ m % 256 = 255 by omega] at hsp
      omega
     ·obtain rfl:m = 7:=by omega
      have:X / 256 ^ 7 % 256 * 256 ^ 7 ≤ 127 * 256 ^ 7:=Nat.mul_le_mul_right _ (by omega)
      omega
  rw [hs,if_neg hz,if_neg (by rw [hlen]; simp),if_pos (by omega),zqea,hlow.1]
  congr 1
  simp
def Keyed (k:Int):Prop:=k = 18446744073709551615 ∨ (4503599627370495 ≤ k ∧ k ≤ 18442240474082181120)
instance (k:Int):Decidable (Keyed k):=by unfold Keyed; infer_instance
def getF (b:List Int):Int × Nat :=
 if 8 ≤ b.length then (if Keyed (fillN b 0 8) then (fillN b 0 8,0) else (0,6))
 else if Keyed (fillN b 0 8) ∨ Keyed (fillN b 255 8) ∨ (fillN b 0 8 < 9223372036854775808 ∧ 9223372036854775808 ≤ fillN b 255 8) then (0,5) else (0,6)
theorem zqwt {k:Nat} (hk:k < 18446744073709551616) (h:Keyed k) (more:List Int):getF (encF k ++ more) = ((k:Int),0):=by
 unfold getF encF;rw [if_pos (by rw [List.length_append,zqat]; omega),zqea,Nat.mod_eq_of_lt (by exact hk),if_pos h]
def meetB (lo hi first last:Int):Bool:=decide (lo ≤ last) && decide (first ≤ hi)
def num1 (b:List Int) (n:Nat) (first last:Int):Int × Nat :=
 if meetB (fillN b 0 n) (fillN b 255 n) first last then (if b.length < n then (0,5) else (fillN b 0 n,0)) else (0,6)
def num2 (b:List Int) (n:Nat) (f1 l1 f2 l2:Int):Int × Nat :=
 if meetB (fillN b 0 n) (fillN b 255 n) f1 l1 || meetB (fillN b 0 n) (fillN b 255 n) f2 l2 then (if b.length < n then (0,5) else (fillN b 0 n,0)) else (0,6)
theorem zqwu {b:List Int} (h:Bt b):num2 b 8 4503599627370495 18442240474082181120 18446744073709551615 18446744073709551615 = getF b:=by
 have r0:=zqao h (f:=0) (by decide) (by decide) 8
 have r1:=zqao h (f:=255) (by decide) (by decide) 8
 have hle:=zqop h 8;have hfull:=zqgf (t:=b) 255 8;have e8:(256:Int) ^ 8 = 18446744073709551616:=by decide
 rw [e8] at r0 r1;unfold num2 getF meetB;generalize fillN b 0 8 = lo at *;generalize fillN b 255 8 = hi at *
 by_cases hl:8 ≤ b.length
 ·have:=hfull hl;subst this;rw [if_pos hl,if_neg (show ¬ b.length < 8 by omega)]
  simp only [Bool.or_eq_true,Bool.and_eq_true,decide_eq_true_eq]
  by_cases hk:Keyed hi
  all_goals (have hk':=hk; unfold Keyed at hk')
  ·rw [if_pos hk,if_pos (by omega)]
  ·rw [if_neg hk,if_neg (by omega)]
 ·rw [if_neg hl,if_pos (show b.length < 8 by omega)]
  simp only [Bool.or_eq_true,Bool.and_eq_true,decide_eq_true_eq];have e1:Keyed lo ↔ (lo = 18446744073709551615 ∨ (4503599627370495 ≤ lo ∧ lo ≤ 18442240474082181120)):=Iff.rfl;have e2:Keyed hi ↔ (hi = 18446744073709551615 ∨ (4503599627370495 ≤ hi ∧ hi ≤ 18442240474082181120)):=Iff.rfl
  split <;> split <;> rename_i p q <;> rw [e1,e2] at q <;> first | rfl | (exfalso; omega)
def grN (n:Nat):Int:=256 ^ n - 1
def needF (n:Nat):Int:=if n = 0 then 0 else grN (n - 1) + 1
def needL (n:Nat) (most:Int):Int:=if n = 0 then 0 else min (grN n) most
theorem zqwy {h:Int} {t:List Int} (ht:Bt t) (h0:0 ≤ h) (h8:h ≤ 8) :
  getU (h :: t) = (let r:=num1 t h.toNat (needF h.toNat) (needL h.toNat 18446744073709551615); if r.2 = 0 then (r.1,1 + h.toNat,0) else (0,0,r.2)):=by
 obtain ⟨n,rfl⟩:=Int.eq_ofNat_of_zero_le h0;simp only [Int.toNat_natCast];unfold getU num1 meetB needF needL grN;simp only [Int.toNat_natCast];cases n with
 | zero => simp [fillN]
 | succ m =>
  have r0:=zqao ht (f:=0) (by decide) (by decide) (m + 1)
  have r1:=zqao ht.tl (f:=255) (by decide) (by decide) m
  have hle:(256:Int) ^ (m + 1) ≤ 256 ^ 8:=by
   have:256 ^ (m + 1) ≤ 256 ^ 8:=Nat.pow_le_pow_right (by decide) (by omega)
   exact_mod_cast this
  have e8:(256:Int) ^ 8 = 18446744073709551616:=by decide
  have hh:=zqbx t 255 m;have hp:=p256 m;have hb:=ht.getD (d:=255) (by decide) (by decide) 0
  have hz:t.getD 0 1 = 0 ↔ t.getD 0 255 = 0:=by cases t <;> simp
  have hcond:(fillN t 255 (m + 1) < 256 ^ m) ↔ t.getD 0 255 = 0:=by
   rw [hh]
   constructor
   ·intro hc;apply Classical.byContradiction;intro hne;have:1 * (256:Int) ^ m ≤ t.getD 0 255 * 256 ^ m:=Int.mul_le_mul_of_nonneg_right (by omega) (by omega)
    omega
   ·intro hc; rw [hc]; omega
  simp only [Nat.succ_ne_zero,if_false,Nat.add_sub_cancel];have hm:fillN t 0 (m + 1) ≤ min (256 ^ (m + 1) - 1) 18446744073709551615:=by omega
  by_cases hc:t.getD 0 255 = 0
  ·have:=hcond.2 hc;rw [if_pos (.inr ⟨by omega,hz.2 hc⟩)]
   have e:(decide (fillN t 0 (m + 1) ≤ min (256 ^ (m + 1) - 1) 18446744073709551615) && decide (256 ^ m - 1 + 1 ≤ fillN t 255 (m + 1))) = false:=by
    rw [Bool.and_eq_false_iff]; right; rw [decide_eq_false_iff_not]; omega
   rw [e]; simp
  ·have:¬ fillN t 255 (m + 1) < 256 ^ m:=fun hh => hc (hcond.1 hh)
   rw [if_neg (by rw [hz]; omega)]
   have e:(decide (fillN t 0 (m + 1) ≤ min (256 ^ (m + 1) - 1) 18446744073709551615) && decide (256 ^ m - 1 + 1 ≤ fillN t 255 (m + 1))) = true:=by
    rw [Bool.and_eq_true]; exact ⟨decide_eq_true hm,by rw [decide_eq_true_iff]; omega⟩
   rw [e]
   by_cases hl:t.length < m + 1
   ·simp [hl]
   ·simp [hl]; omega
theorem zqku:∀ n,fillN [] 0 n = 0
 | 0 => rfl
 | n + 1 => by unfold fillN; rw [zqku n]; rfl
theorem zqhk:∀ n,fillN [] 255 n = 256 ^ n - 1
 | 0 => rfl
 | n + 1 => by unfold fillN; rw [zqhk n,Int.pow_succ]; simp; omega
def spanI (h:Int):Int × Int:=if h < 9 then (grN (sizeI h) - needL (sizeI h) 9223372036854775807,grN (sizeI h) - needF (sizeI h)) else (needF (sizeI h),needL (sizeI h) 9223372036854775807)
theorem zqxi {c r s:Int} {m:Nat} (hm:m ≤ 7) (c0:0 ≤ c) (c1:c ≤ 255) (r0:0 ≤ r) (r1:r < 256 ^ m) (s0:0 ≤ s) (s1:s < 256 ^ m) :
  meetB (c * 256 ^ m + r) (c * 256 ^ m + s) (needF (m + 1)) (needL (m + 1) 9223372036854775807) = true ↔ ¬ (c = 0 ∨ (m + 1 = 8 ∧ 127 < c)):=by
 have h:m = 0 ∨ m = 1 ∨ m = 2 ∨ m = 3 ∨ m = 4 ∨ m = 5 ∨ m = 6 ∨ m = 7:=by omega
 rcases h with rfl | rfl | rfl | rfl | rfl | rfl | rfl | rfl <;> simp [meetB,needF,needL,grN] at * <;> omega
theorem zqxh {c r s:Int} {m:Nat} (hm:m ≤ 7) (c0:0 ≤ c) (c1:c ≤ 255) (r0:0 ≤ r) (r1:r < 256 ^ m) (s0:0 ≤ s) (s1:s < 256 ^ m) :
  meetB (c * 256 ^ m + r) (c * 256 ^ m + s) (grN (m + 1) - needL (m + 1) 9223372036854775807) (grN (m + 1) - needF (m + 1)) = true ↔ ¬ (c = 255 ∨ (m + 1 = 8 ∧ c < 128)):=by
 have h:m = 0 ∨ m = 1 ∨ m = 2 ∨ m = 3 ∨ m = 4 ∨ m = 5 ∨ m = 6 ∨ m = 7:=by omega
 rcases h with rfl | rfl | rfl | rfl | rfl | rfl | rfl | rfl <;> simp [meetB,needF,needL,grN] at * <;> omega
theorem zqtt {m:Nat} (hm:m ≤ 7) (h:Int) (hs:sizeI h = m + 1):meetB 0 (256 ^ (m + 1) - 1) (spanI h).1 (spanI h).2 = true:=by
 unfold spanI;rw [hs];have h:m = 0 ∨ m = 1 ∨ m = 2 ∨ m = 3 ∨ m = 4 ∨ m = 5 ∨ m = 6 ∨ m = 7:=by omega
 split <;> rcases h with rfl | rfl | rfl | rfl | rfl | rfl | rfl | rfl <;> simp [meetB,needF,needL,grN] <;> omega
theorem zqmh {h:Int} {t:List Int} (ht:Bt t) (h0:0 ≤ h) (h17:h ≤ 17) :
  getI (h :: t) = (let r:=num1 t (sizeI h) (spanI h).1 (spanI h).2; if r.2 = 0 then (if h < 9 then r.1 - 256 ^ sizeI h else r.1,1 + sizeI h,0) else (0,0,r.2)):=by
 rw [zqb5];have hs:sizeI h ≤ 8:=by unfold sizeI; split <;> omega
 unfold num1;generalize hn:sizeI h = n at *;cases n with
 | zero =>
  have hb:¬ badI h t 0:=by unfold badI; omega
  have e:meetB (fillN t 0 0) (fillN t 255 0) (spanI h).1 (spanI h).2 = true:=by
   unfold spanI; rw [hn]; split <;> simp [meetB,needF,needL,grN,fillN]
  rw [if_neg hb,e]; simp
 | succ m =>
  cases t with
  | nil =>
   have hb:¬ badI h [] (m + 1):=by unfold badI; simp; omega
   rw [if_neg hb,zqku,zqhk,zqtt (by omega) h hn]
   simp
  | cons c t =>
   have a0:=zqao ht.tail (f:=0) (by decide) (by decide) m
   have a1:=zqao ht.tail (f:=255) (by decide) (by decide) m
   have hc:=ht.head;rw [zqbx,zqbx];simp only [List.getD_cons_zero,List.tail_cons];have hb:badI h (c :: t) (m + 1) ↔ (if h < 9 then c = 255 ∨ (m + 1 = 8 ∧ c < 128) else c = 0 ∨ (m + 1 = 8 ∧ 127 < c)):=by
    unfold badI; simp only [List.getD_cons_zero,List.length_cons]
    constructor
    ·rintro (h | h)
     ·omega
     ·exact h.2.2
    ·intro h; exact .inr ⟨by omega,by omega,h⟩
   have hmeet:meetB (c * 256 ^ m + fillN t 0 m) (c * 256 ^ m + fillN t 255 m) (spanI h).1 (spanI h).2 = true ↔ ¬ badI h (c :: t) (m + 1):=by
    rw [hb];unfold spanI;rw [hn]
    split
    ·exact zqxh (by omega) hc.1 hc.2 a0.1 a0.2 a1.1 a1.2
    ·exact zqxi (by omega) hc.1 hc.2 a0.1 a0.2 a1.1 a1.2
   by_cases hbad:badI h (c :: t) (m + 1)
   ·have e:meetB (c * 256 ^ m + fillN t 0 m) (c * 256 ^ m + fillN t 255 m) (spanI h).1 (spanI h).2 = false:=by
     rw [Bool.eq_false_iff]; intro he; exact hmeet.1 he hbad
    rw [if_pos hbad,e]; simp
   ·rw [if_neg hbad,hmeet.2 hbad]
    by_cases hl:(c :: t).length < m + 1
    ·rw [if_pos hl,if_pos rfl,if_pos hl]; rfl
    ·rw [if_neg hl,if_pos rfl,if_neg hl,Nat.add_comm 1]; rfl
set_option maxRecDepth 100000
open Go.RowKit
set_option linter.unusedVariables false
abbrev BOwn (w:World) (B:Nat) (v:Value) (l:List Int):Prop:=w.ownsRow B 5 1 v l.length (l.map (Value.int .u8))
theorem zqac {w:World} {B E:Nat} {v:Value} {n:Nat} {xs:List Value} (h:w.ownsRow B E 1 v n xs):∃ a l c,v = .slice a l c:=by
 obtain ⟨a,c,e⟩:=zqbf h;exact ⟨a,n,c,e⟩
theorem zqx1 {B:Nat} {w wr w1:World} {o v':Value} {l m:List Int} {ob:Obj} (hB:B ≤ wr.heap.size) (hnx:Below B w wr) (hown:BOwn wr B o l)
  (hown':w1.ownsRow B 5 1 v' (l.length + m.length) (l.map (Value.int .u8) ++ m.map (Value.int .u8))) (hg:(wr.alloc ob).grownBy w1 o.ownBlock):BOwn w1 B v' (l ++ m) ∧ Below B w w1:=by
 refine ⟨?_,(hnx.alloc hB ob).grown hg (by simp; omega) (fun k hk => (hown.lt k hk).1)⟩
 unfold BOwn;rw [List.length_append,List.map_append]; exact hown'
theorem zqbu {w:World} {B B':Nat} {v:Value} {l:List Int} (h:BOwn w B v l) (hb:B' ≤ B):BOwn w B' v l:=by
 refine ⟨h.1,?_⟩;rcases h.2 with h0 | ⟨g,cap,cur,h1,h2,h3⟩
 ·exact .inl h0
 ·exact .inr ⟨g,cap,cur,h1,Nat.le_trans hb h2,h3⟩
theorem zqxz {w:World} {B:Nat} {v:Value} {l:List Int} (h:BOwn w B v l) (hn:0 < l.length):∃ g cap,v = .slice (some ⟨g,0,none⟩) l.length cap ∧ B ≤ g ∧ g < w.heap.size:=by
 rcases h.2 with ⟨_,h0⟩ | ⟨g,cap,cur,hv,hb,hg,_⟩
 ·omega
 ·exact ⟨g,cap,hv,hb,(Array.getElem?_eq_some_iff.1 hg).1⟩
theorem zqo3 {w:World} {B g cap n:Nat} {l:List Int} (h:w.ownsRow B 5 1 (.slice (some ⟨g,0,none⟩) n cap) n (l.map (Value.int .u8))) (j:Nat) (x:Int) :
  (w.setCell ⟨g,j,none⟩ (.int .u8 x)).ownsRow B 5 1 (.slice (some ⟨g,0,none⟩) n cap) n ((l.set j x).map (Value.int .u8)) ∧ w.grownBy (w.setCell ⟨g,j,none⟩ (.int .u8 x)) (some g):=by
 have:=World.ownsRow.stored h j (.int .u8 x);rw [List.map_set]; exact this
theorem zqo2 {w:World} {B g cap n:Nat} {l:List Int} (h:w.ownsRow B 5 1 (.slice (some ⟨g,0,none⟩) n cap) n (l.map (Value.int .u8))) {j:Nat} (hj:j < l.length) :
  w.cell? ⟨g,j,none⟩ = some (.int .u8 (l.getD j 0)) ∧ w.frozen? ⟨g,j,none⟩ = false:=by
 have h1:=h.1;rw [List.length_map,Nat.mul_one] at h1;refine ⟨?_,World.ownsRow.frozenAt h j⟩;rw [World.ownsRow.cellAt h j (by omega),List.getElem?_map,List.getElem?_eq_getElem hj,List.getD,List.getElem?_eq_getElem hj]
 rfl
theorem own1 (w:World) (B:Nat) (x:Int) (hB:B ≤ w.heap.size):BOwn (w.alloc (.cells #[.int .u8 x] 5)) B (.slice (some ⟨w.heap.size,0,none⟩) 1 1) [x] :=
 ⟨by simp,.inr ⟨w.heap.size,1,_,rfl,hB,heap_alloc_new w _,by simp,by decide,by simp,by simp⟩⟩
theorem own0 (w:World) (B:Nat):BOwn w B (.slice none 0 0) []:=⟨by simp,.inl ⟨rfl,rfl⟩⟩
section
variable {P : Program} (w : World)
theorem zqhg (base:Nat) (t ty e:TypeId) (i:TypeInfo) (size:Nat) (ht:P.underlying t = some (.slice e)) (hi:P.info? e = some i)
  (v:Value) (n:Nat) (xs:List Value) (hown:w.ownsRow base e size v n xs) (c:Nat):(Builtin.append_ #[t,t] ty #[v,.slice none 0 c]).run P w = .ok v w:=by
 rcases hown.2 with ⟨rfl,rfl⟩ | ⟨g,cap,cur,rfl,_,_,hnc,_⟩
 ·simp [Builtin.append_,run_underlying ht,sizeOf,typeInfo,hi,Builtin.lenOf,Builtin.firstCells]
 ·simp [Builtin.append_,run_underlying ht,sizeOf,typeInfo,hi,Builtin.lenOf,Builtin.firstCells,hnc,storeCells]
theorem zqf4 (base:Nat) (t ty e:TypeId) (i:TypeInfo) (z:Value) (bytes:Nat) (ht:P.underlying t = some (.slice e)) (hi:P.info? e = some i) (hz:i.zero = some z) (hsize:i.size = 1) (hby:i.bytes = bytes) (hzs:z.cells.size = 1)
  (k:IntKind) (v v2:Value) (zs ns:List Int) (hown:w.ownsRow base e 1 v zs.length (zs.map (Value.int k))) (hv2:Ints k w v2 ns) (h63:zs.length + ns.length ≤ maxLen) (hbytes:(zs.length + ns.length) * bytes ≤ 140737488355328) (hbase:base ≤ w.heap.size) :
  ∃ v' w',(Builtin.append_ #[t,t] ty #[v,v2]).run P w = .ok v' w' ∧ w'.ownsRow base e 1 v' (zs ++ ns).length ((zs ++ ns).map (Value.int k)) ∧ w.grownBy w' v.ownBlock:=by
 obtain ⟨a,cap,rfl,hc,ha⟩:=hv2;have one:∀ u ∈ ns.map (Value.int k),u.oneCell' = true:=by
  intro u hu; obtain ⟨x,_,rfl⟩:=List.mem_map.1 hu; rfl
 have fin:∀ (v':Value) (w':World),w'.ownsRow base e 1 v' (zs.length + ns.length) (zs.map (Value.int k) ++ ns.map (Value.int k)) → w'.ownsRow base e 1 v' (zs ++ ns).length ((zs ++ ns).map (Value.int k)):=fun v' w' h => by
  simpa using h
 cases a with
 | none =>
  have hn:ns = []:=by
   rcases ha with h | ⟨b,off,h,_⟩
   ·exact h
   ·cases h
  subst hn;exact ⟨v,w,zqhg w base t ty e i 1 ht hi v _ _ hown cap,fin v w (by simpa using hown),World.grownBy.refl w _⟩
 | some ad =>
  have hnews:∀ j u,(ns.map (Value.int k))[j]? = some u → w.cell? (ad.add j) = some u:=fun j u hj => by
   rcases ha with h | ⟨b,off,h,_,hcell⟩
   ·subst h; simp at hj
   ·simp only [Option.some.injEq] at h;subst h;rw [List.getElem?_map] at hj;obtain ⟨x,hx,rfl⟩:=Option.map_eq_some_iff.1 hj;have hl:=(List.getElem?_eq_some_iff.1 hx).1;have hh:=hcell j hl;have e1:ns.getD j 0 = x:=by simp [List.getD,hx]
    rw [e1] at hh
    by_cases h0:j = 0
    ·subst h0; simpa [Addr.add] using hh
    ·simpa [Addr.add,h0] using hh
  obtain ⟨v',w',hrun,r1,r2,_⟩:=run_append_own (P:=P) w base t ty e i z 1 bytes ht hi hz hsize hby hzs (by omega) v zs.length _ hown ad ns.length cap (ns.map (Value.int k)) (by simp) hnews one h63 hbytes hbase
  exact ⟨v',w',hrun,fin v' w' r1,r2⟩
theorem zqaq {ops:Array Oper} {rest:List Oper} {o:Oper} {a:Act} {Q:Exit → Act → World → Prop} (hw:Region.wanted o (yielded ops a.tmps) = true) (s x:Operand) (t:TypeId)
  (ho:o.op = .call { callee:=.builtin .append,args:=#[s,x],argTypes:=#[t,t] })
  (base:Nat) (e:TypeId) (i:TypeInfo) (z:Value) (bytes:Nat) (ht:P.underlying t = some (.slice e)) (hi:P.info? e = some i) (hz:i.zero = some z) (hsize:i.size = 1) (hby:i.bytes = bytes) (hzs:z.cells.size = 1)
  (k:IntKind) (v v2:Value) (zs ns:List Int) (hs:a.eval s = v) (hx:a.eval x = v2) (hown:w.ownsRow base e 1 v zs.length (zs.map (Value.int k))) (hv2:Ints k w v2 ns) (h63:zs.length + ns.length ≤ maxLen) (hbytes:(zs.length + ns.length) * bytes ≤ 140737488355328) (hbase:base ≤ w.heap.size)
  (h:∀ v' w',w'.ownsRow base e 1 v' (zs ++ ns).length ((zs ++ ns).map (Value.int k)) → w.grownBy w' v.ownBlock → wpList P ops Q rest (a.put o.dst v') w'):wpList P ops Q (o :: rest) a w :=
 BigFrame.wpList_want hw fun _ hK => by
  obtain ⟨v',w',hrun,r1,r2⟩:=zqf4 (P:=P) w base t o.type e i z bytes ht hi hz hsize hby hzs k v v2 zs ns hown hv2 h63 hbytes hbase;unfold Oper.wp;simp [execOp,ho,resolve,invoke,builtin,hs,hx,hrun,Result.andThen];exact hK _ _ (h v' w' r1 r2)
theorem zqay {ops:Array Oper} {o:Oper} {a:Act} {K:Act → World → Prop} {Q:Exit → Act → World → Prop} {E:Prop} (hgd:o.guard = none) (s x:Operand) (t:TypeId)
  (ho:o.op = .call { callee:=.builtin .append,args:=#[s,x],argTypes:=#[t,t] })
  (base:Nat) (e:TypeId) (i:TypeInfo) (z:Value) (bytes:Nat) (ht:P.underlying t = some (.slice e)) (hi:P.info? e = some i) (hz:i.zero = some z) (hsize:i.size = 1) (hby:i.bytes = bytes) (hzs:z.cells.size = 1)
  (k:IntKind) (v v2:Value) (zs ns:List Int) (hs:a.eval s = v) (hx:a.eval x = v2) (hown:w.ownsRow base e 1 v zs.length (zs.map (Value.int k))) (hv2:Ints k w v2 ns) (h63:zs.length + ns.length ≤ maxLen) (hbytes:(zs.length + ns.length) * bytes ≤ 140737488355328) (hbase:base ≤ w.heap.size)
  (h:∀ v' w',w'.ownsRow base e 1 v' (zs ++ ns).length ((zs ++ ns).map (Value.int k)) → w.grownBy w' v.ownBlock → K (a.put o.dst v') w') :
  if Region.wanted o (yielded ops a.tmps) = true then Oper.wp P o a w K Q else E:=by
 have hw:Region.wanted o (yielded ops a.tmps) = true:=by simp [Region.wanted,hgd]
 rw [if_pos hw];obtain ⟨v',w',hrun,r1,r2⟩:=zqf4 (P:=P) w base t o.type e i z bytes ht hi hz hsize hby hzs k v v2 zs ns hown hv2 h63 hbytes hbase;unfold Oper.wp;simp [execOp,ho,resolve,invoke,builtin,hs,hx,hrun,Result.andThen];exact h v' w' r1 r2
end
def BytesB (B:Nat) (w:World) (l:List Int) (e:Ending) (w':World):Prop:=(∃ v,e = .returned v ∧ BOwn w' B v l) ∧ Below B w w'
set_option maxHeartbeats 4000000 in
theorem zqfw (v:Value) (l:List Int) (x n B:Nat) (w:World) (h:BOwn w B v l) (hB:B ≤ w.heap.size) (hl:l.length ≤ 1000) (hx:x < 18446744073709551616) (hn:n ≤ 8) :
  Calls Tryz.prog 96 #[v,.int .u64 x,.int .i64 n] w (BytesB B w (l ++ bigN x n)):=by
 obtain ⟨i0,hi,hz0,hz1,hz2⟩:=info_parts Tryz.infoU8;have HO:=zh h;have HL:=zh (zqat x n);have HT:=zh (zqr8 x n);have HLl:=zh hl;obtain ⟨a,len,cap,rfl⟩:=zqac h;clear h hl;go_enter Tryz.func96,Tryz.ntmps96;go_wp2_with fail;go_loopw [0,9] (fun bv i wr => ∃ k:Nat,k ≤ n ∧ i = .int .i64 k ∧ Hid (BOwn wr B bv (l ++ (bigN x n).take k)) ∧ Hid (Below B w wr)) (fun _ i _ => n - (intOf i).toNat)
 case atStart => exact ⟨0,Nat.zero_le _,rfl,zh (by simpa using HO.out),zh (Below.refl _ _)⟩
 case round =>
  obtain ⟨k,hk,rfl,hown,hb⟩:=hrel
  by_cases hlt:k < n
  ·have hT:=zh (HT.out k hlt);obtain ⟨j,hj⟩:∃ j,n - 1 - k = j:=⟨_,rfl⟩
   rw [hj] at hT;have i1:(k:Int) < (n:Int):=by omega
   have i5:IntKind.i64.wrap ((n:Int) - 1) = (n:Int) - 1:=IntWalk.i64_in _ (by omega)
   have i6:IntKind.i64.wrap ((n:Int) - 1 - k) = (j:Int):=by rw [IntWalk.i64_in _ (by omega)]; omega
   have i7:IntKind.i64.wrap (8 * (j:Int)) = 8 * (j:Int):=IntWalk.i64_in _ (by omega)
   have i8:8 * (j:Int) < 64:=by omega
   have i9:(0:Int) ≤ 8 * (j:Int):=by omega
   have hln:(l ++ (bigN x n).take k).length ≤ 100000:=by have:=HLl.out; have:=HL.out; simp; omega
   have hm:(l ++ (bigN x n).take k).length + 1 ≤ maxLen:=by unfold maxLen; omega
   have hsz:=Nat.le_trans hB hb.out.size;have hc:=zh (show (x:Int) / 2 ^ (8 * j) % 256 = ((x / 256 ^ j % 256:Nat):Int) by rw [pow_8]; push_cast; rfl)
   obtain ⟨pa,pl,pc,rfl⟩:=zqac hown.out;have hob:=hown.out;go_wp2_with (at_builtin; refine wpList_append_own _ rfl _ _ 36 rfl B 5 i0 (.int .u8 0) 1 1 Tryz.underlying36 hi hz0 hz1 hz2 rfl (by decide) _ _ _ rfl (hob.alloc _) ⟨wr.heap.size,0,none⟩ 1 1 [.int .u8 ((x:Int) / 2 ^ (8 * j) % 256)] rfl rfl (World.news_of_block (heap_alloc_new wr _)) (by simp [Value.oneCell']) hm (by omega) (by simp; omega) ?_; intro v' w1 hown' hgrow _)
   have hP:=zqx1 (m:=[(x:Int) / 2 ^ (8 * j) % 256]) hsz hb.out hob hown' hgrow;rw [hc.out,List.append_assoc,← hT.out] at hP;have HO2:=zh hP.1;have HB2:=zh hP.2;clear hown' hgrow hP hob hc;go_wp2_with fail;go_roundw
   case rel => exact ⟨k + 1,by omega,by go_num,HO2,HB2⟩
   case measure => simp [intOf]; omega
  ·obtain rfl:k = n:=by omega
   obtain ⟨pa,pl,pc,rfl⟩:=zqac hown.out;have e:(bigN x k).take k = bigN x k:=List.take_of_length_le (by rw [HL.out]; exact Nat.le_refl _)
   have hob:=zh (show BOwn wr B (.slice pa pl pc) (l ++ bigN x k) by rw [← e]; exact hown.out)
   clear hown e;have i1:¬ ((k:Nat):Int) < (k:Nat):=by omega
   go_wp2_with fail;go_ret;exact ⟨⟨_,rfl,hob.out⟩,hb.out⟩
set_option maxHeartbeats 1000000 in
set_option maxRecDepth 100000 in
theorem zqtq (x:Int) (w:World) (h0:0 ≤ x) (h1:x ≤ 18446744073709551615) :
  Calls Tryz.prog 136 #[.int .u64 x] w fun e w' => e = .returned (.int .i64 (Lib.bitLen x.toNat)) ∧ w = w':=by
 have hsz:=Lib.len8tab_size;go_enter Tryz.func136,Tryz.ntmps136;go_wp2
 all_goals (go_ret; refine ⟨zqar ?_,rfl⟩)
 ·exact zqbj x _ 56 _ (by decide) ((Lib.bitLen_shift56 x.toNat (by omega) (by omega)).trans (by congr 2; omega))
 ·exact zqbj x _ 48 _ (by decide) ((Lib.bitLen_shift48 x.toNat (by omega) (by omega)).trans (by congr 2; omega))
 ·exact zqbj x _ 40 _ (by decide) ((Lib.bitLen_shift40 x.toNat (by omega) (by omega)).trans (by congr 2; omega))
 ·exact zqbj x _ 32 _ (by decide) ((Lib.bitLen_shift32 x.toNat (by omega) (by omega)).trans (by congr 2; omega))
 ·exact zqbj x _ 24 _ (by decide) ((Lib.bitLen_shift24 x.toNat (by omega) (by omega)).trans (by congr 2; omega))
 ·exact zqbj x _ 16 _ (by decide) ((Lib.bitLen_shift16 x.toNat (by omega) (by omega)).trans (by congr 2; omega))
 ·exact zqbj x _ 8 _ (by decide) ((Lib.bitLen_shift8 x.toNat (by omega) (by omega)).trans (by congr 2; omega))
 ·exact zqi2 x _
theorem zqe2 (x:Nat) (w:World) (hx:x < 18446744073709551616):Calls Tryz.prog 95 #[.int .u64 x] w fun e w' => e = .returned (.int .i64 (bytesN x)) ∧ w = w':=by
 have H:=zh (zqtq (x:Int) w (by omega) (by omega))
 have hb:=Lib.bitLen_le x 64 (by decide) hx
 have e:(x:Int).toNat = x:=by omega
 rw [e] at H;have hR:(bytesN x:Int) = ((Lib.bitLen x:Int) + 7) / 8:=by unfold bytesN; omega
 have hR:=zh hR;generalize bytesN x = r at *;generalize Lib.bitLen x = b at *;have i1:IntKind.i64.wrap ((b:Int) + 8) = (b:Int) + 8:=IntWalk.i64_in _ (by omega)
 have i2:IntKind.i64.wrap ((b:Int) + 8 - 1) = (b:Int) + 7:=by rw [IntWalk.i64_in _ (by omega)]; omega
 go_enter Tryz.func95,Tryz.ntmps95;go_wp2_with fail;refine (H.out).mono ?_; rintro e w' ⟨rfl,rfl⟩;go_wp2_with fail;go_ret;exact ⟨zqar (by rw [hR.out]),rfl⟩
def BytesP (w:World) (l:List Int):Ending → World → Prop:=BytesB w.heap.size w l
set_option maxHeartbeats 2000000 in
theorem zquc (x:Nat) (w:World) (hx:x < 18446744073709551616):Calls Tryz.prog 50 #[.int .u64 x] w (BytesP w (encU x)):=by
 have HN:=zh (zqe2 x w hx);have hn:=zqau x hx;have hR:=zh (show encU x = [(bytesN x:Int)] ++ bigN x (bytesN x) from rfl);generalize bytesN x = n at *;have HL:=zh (zqfw _ _ x n w.heap.size _ (own1 w w.heap.size (n:Int) (Nat.le_refl _)) (by simp) (by simp) hx hn)
 have hu:IntKind.u8.wrap (n:Int) = n:=by rw [IntKind.wrap_u8]; omega
 go_enter Tryz.func50,Tryz.ntmps50;go_wp2_with fail;refine (HN.out).mono ?_; rintro e w1 ⟨rfl,rfl⟩;go_wp2_with fail;refine (HL.out).mono ?_; rintro e w1 ⟨⟨v,rfl,ho⟩,hb⟩;have HO:=zh ho;have HB:=zh (Below.trans (zqab w _) hb);clear ho hb;go_wp2_with fail;go_ret;exact ⟨⟨v,rfl,by rw [hR.out]; exact HO.out⟩,HB.out⟩
set_option maxHeartbeats 2000000 in
theorem zq1p (x:Int) (w:World) (h0:-9223372036854775808 ≤ x) (h1:x ≤ 9223372036854775807):Calls Tryz.prog 51 #[.int .i64 x] w (BytesP w (encI x)):=by
 by_cases hx:0 ≤ x
 ·have hR:=zh (show encI x = [(9 + bytesN x.toNat:Int)] ++ bigN x.toNat (bytesN x.toNat) by unfold encI; rw [if_pos hx]; rfl)
  have hu64:IntKind.u64.wrap x = (x.toNat:Int):=by rw [IntKind.wrap_u64]; omega
  have HX:=zh (show ((x.toNat:Nat):Int) = x by omega)
  have hX:x.toNat < 18446744073709551616:=by omega
  generalize x.toNat = X at *;have HN:=zh (zqe2 X w hX);have hn:=zqau X hX;generalize bytesN X = n at *;have HL:=zh (zqfw _ _ X n w.heap.size _ (own1 w w.heap.size (9 + (n:Int)) (Nat.le_refl _)) (by simp) (by simp) hX hn)
  have hi:IntKind.i64.wrap (9 + (n:Int)) = 9 + n:=IntWalk.i64_in _ (by omega)
  have hu:IntKind.u8.wrap (9 + (n:Int)) = 9 + n:=by rw [IntKind.wrap_u8]; omega
  go_enter Tryz.func51,Tryz.ntmps51;go_wp2_with fail;refine (HN.out).mono ?_; rintro e w1 ⟨rfl,rfl⟩;go_wp2_with fail;refine (HL.out).mono ?_; rintro e w1 ⟨⟨v,rfl,ho⟩,hb⟩;have HO:=zh ho;have HB:=zh (Below.trans (zqab w _) hb);clear ho hb;go_wp2_with fail;go_ret;exact ⟨⟨v,rfl,by rw [hR.out]; exact HO.out⟩,HB.out⟩
 ·have hR:=zh (show encI x = [(8 - bytesN (-1 - x).toNat:Int)] ++ bigN (x % 18446744073709551616).toNat (bytesN (-1 - x).toNat) by unfold encI; rw [if_neg hx]; rfl)
  have hw:IntKind.i64.wrap (-1 - x) = -1 - x:=IntWalk.i64_in _ (by omega)
  have hu64:IntKind.u64.wrap (-1 - x) = ((-1 - x).toNat:Int):=by rw [IntKind.wrap_u64]; omega
  have hu64':IntKind.u64.wrap x = ((x % 18446744073709551616).toNat:Int):=by rw [IntKind.wrap_u64]; omega
  have hX:(x % 18446744073709551616).toNat < 18446744073709551616:=by omega
  have hY:(-1 - x).toNat < 18446744073709551616:=by omega
  generalize (x % 18446744073709551616).toNat = X at *;generalize (-1 - x).toNat = Y at *;have HN:=zh (zqe2 Y w hY);have hn:=zqau Y hY;generalize bytesN Y = n at *;have HL:=zh (zqfw _ _ X n w.heap.size _ (own1 w w.heap.size (8 - (n:Int)) (Nat.le_refl _)) (by simp) (by simp) hX hn)
  have hi:IntKind.i64.wrap (8 - (n:Int)) = 8 - n:=IntWalk.i64_in _ (by omega)
  have hu:IntKind.u8.wrap (8 - (n:Int)) = 8 - n:=by rw [IntKind.wrap_u8]; omega
  go_enter Tryz.func51,Tryz.ntmps51;go_wp2_with fail;refine (HN.out).mono ?_; rintro e w1 ⟨rfl,rfl⟩;go_wp2_with fail;refine (HL.out).mono ?_; rintro e w1 ⟨⟨v,rfl,ho⟩,hb⟩;have HO:=zh ho;have HB:=zh (Below.trans (zqab w _) hb);clear ho hb;go_wp2_with fail;go_ret;exact ⟨⟨v,rfl,by rw [hR.out]; exact HO.out⟩,HB.out⟩
theorem zq1o (x k:Nat) (w:World) (hx:W64 x) (hk:keyI x = (k:Int)):Calls Tryz.prog 52 #[.float .f64 x] w (BytesP w (encF k)):=by
 have hr:=zqdu hx;have HK:=zh (zqdb x w hx);rw [hk] at HK hr;have HL:=zh (zqfw _ _ k 8 w.heap.size w (own0 w w.heap.size) (Nat.le_refl _) (by simp) (by omega) (by decide))
 clear hk;go_enter Tryz.func52,Tryz.ntmps52;go_wp2_with fail;refine (HK.out).mono ?_; rintro e w1 ⟨rfl,rfl⟩;go_wp2_with fail;refine (HL.out).mono ?_; rintro e w1 ⟨⟨v,rfl,ho⟩,hb⟩;have HO:=zh ho;have HB:=zh hb;clear ho hb;go_wp2_with fail;go_ret;exact ⟨⟨v,rfl,HO.out⟩,HB.out⟩
end Go.Proofs.YtafmghloohhaeaaGreatDoor
