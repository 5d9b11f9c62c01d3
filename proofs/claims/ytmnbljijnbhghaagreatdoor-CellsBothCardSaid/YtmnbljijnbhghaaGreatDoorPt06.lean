/- Contracts that the law leans on: Flof. -/
import Derived.Laws.FloatArith
import Derived.WalkLawsBesides
import Derived.Laws.Externs
import Derived.Laws.BitsAllLaws
import Derived.Lib.Hide
import Derived.Test.YtmnbljijnbhghaaGreatDoorPt02
import Derived.Test.YtmnbljijnbhghaaGreatDoorPt05
namespace Go.Proofs.YtmnbljijnbhghaaGreatDoor
section
open Ieee
theorem zqkc:Ieee.double.leastPlace = -1074:=by decide
theorem zqd1:Ieee.double.binade = 4503599627370496:=by decide
theorem f_inf:Ieee.double.infRung = 9218868437227405312:=by decide
theorem zqd2:Ieee.double.signWeight = 9223372036854775808:=by decide
def SameD (m:Nat) (p:Int) (c:Nat) (q:Int):Prop:=∃ k:Nat,(p = q + k ∧ c = m * 2 ^ k) ∨ (q = p + k ∧ m = c * 2 ^ k)
theorem SameD.refl (m:Nat) (p:Int):SameD m p m p:=⟨0,.inl ⟨by simp,by simp⟩⟩
theorem SameD.symm {m c:Nat} {p q:Int} (h:SameD m p c q):SameD c q m p:=by
 obtain ⟨k,h | h⟩:=h
 ·exact ⟨k,.inr h⟩
 ·exact ⟨k,.inl h⟩
theorem zqay (k:Nat):0 < 2 ^ k:=Nat.two_pow_pos k
theorem SameD.zero {m c:Nat} {p q:Int} (h:SameD m p c q):m = 0 ↔ c = 0:=by
 obtain ⟨k,⟨_,rfl⟩ | ⟨_,rfl⟩⟩:=h
 ·have:=zqay k;exact ⟨fun h => by simp [h],fun h => by rcases Nat.mul_eq_zero.1 h with h | h <;> omega⟩
 ·have:=zqay k;exact ⟨fun h => by rcases Nat.mul_eq_zero.1 h with h | h <;> omega,fun h => by simp [h]⟩
theorem SameD.trans {m c d:Nat} {p q r:Int} (h:SameD m p c q) (k:SameD c q d r):SameD m p d r:=by
 obtain ⟨a,⟨h1,h2⟩ | ⟨h1,h2⟩⟩:=h <;> obtain ⟨b,⟨k1,k2⟩ | ⟨k1,k2⟩⟩:=k
 ·exact ⟨a + b,.inl ⟨by omega,by rw [k2,h2,Nat.pow_add,Nat.mul_assoc]⟩⟩
 ·
  by_cases hab:a ≤ b
  ·obtain ⟨e,rfl⟩:=Nat.exists_eq_add_of_le hab;refine ⟨e,.inr ⟨by omega,?_⟩⟩
   have:m * 2 ^ a = d * 2 ^ e * 2 ^ a:=by rw [← h2,k2,Nat.pow_add,Nat.mul_assoc,Nat.mul_comm (2 ^ a)]
   exact Nat.eq_of_mul_eq_mul_right (zqay a) this
  ·obtain ⟨e,rfl⟩:=Nat.exists_eq_add_of_le (show b ≤ a by omega)
   refine ⟨e,.inl ⟨by omega,?_⟩⟩
   have:d * 2 ^ b = m * 2 ^ e * 2 ^ b:=by rw [← k2,h2,Nat.pow_add,Nat.mul_assoc,Nat.mul_comm (2 ^ b)]
   exact Nat.eq_of_mul_eq_mul_right (zqay b) this
 ·by_cases hab:a ≤ b
  ·obtain ⟨e,rfl⟩:=Nat.exists_eq_add_of_le hab;exact ⟨e,.inl ⟨by omega,by rw [k2,h2,Nat.pow_add,Nat.mul_assoc]⟩⟩
  ·obtain ⟨e,rfl⟩:=Nat.exists_eq_add_of_le (show b ≤ a by omega)
   exact ⟨e,.inr ⟨by omega,by rw [h2,k2,Nat.pow_add,Nat.mul_assoc]⟩⟩
 ·exact ⟨a + b,.inr ⟨by omega,by rw [h2,k2,Nat.pow_add,Nat.mul_assoc,Nat.mul_comm (2 ^ b)]⟩⟩
theorem zqct {c:Nat} (hc:c ≠ 0) (k:Nat):(c * 2 ^ k).log2 = c.log2 + k:=by
 have hp:=zqay k;have hne:c * 2 ^ k ≠ 0:=Nat.mul_ne_zero hc (by omega)
 rw [Nat.log2_eq_iff hne];have h1:=Nat.log2_self_le hc;have h2:=@Nat.lt_log2_self c;refine ⟨?_,?_⟩
 ·rw [Nat.pow_add]; exact Nat.mul_le_mul_right _ h1
 ·rw [show c.log2 + k + 1 = (c.log2 + 1) + k by omega,Nat.pow_add]; exact Nat.mul_lt_mul_of_pos_right h2 hp
theorem SameD.log2 {m c:Nat} {p q:Int} (h:SameD m p c q) (hc:c ≠ 0):p + m.log2 = q + c.log2:=by
 have hm:m ≠ 0:=fun e => hc (h.zero.1 e)
 obtain ⟨k,⟨h1,h2⟩ | ⟨h1,h2⟩⟩:=h
 ·rw [h2,zqct hm]; omega
 ·rw [h2,zqct hc]; omega
def Canon (c:Nat) (q:Int):Prop:=c < 9007199254740992 ∧ -1074 ≤ q ∧ (4503599627370496 ≤ c ∨ q = -1074)
def rungOf (c:Nat) (q:Int):Nat:=(q + 1074).toNat * 4503599627370496 + c
theorem zqvz (neg:Bool) (n:Nat):Toward.even.cut neg n 0 = n:=by
 simp [Toward.cut,Nat.mod_one]
theorem zqsn (neg:Bool) (c k:Nat) (hc:c ≠ 0):Toward.even.cut neg (c * 2 ^ k) k = c:=by
 have h1:min k ((c * 2 ^ k).log2 + 2) = k:=by rw [zqct hc]; omega
 have hp:=zqay k;simp [Toward.cut,h1,Nat.one_shiftLeft,Nat.mul_div_cancel _ hp]
theorem zql8 (neg:Bool) {m c:Nat} {p q:Int} (h:SameD m p c q) (hc:Canon c q) (h0:c ≠ 0) :
  Ieee.double.nearest neg m p = Ieee.double.word neg (min (rungOf c q) 9218868437227405312):=by
 have hm:m ≠ 0:=fun e => h0 (h.zero.1 e)
 have hl:=h.log2 h0;obtain ⟨c1,c2,c3⟩:=hc;have hcl:c.log2 ≤ 52:=by have:=(Nat.log2_lt h0 (k:=53)).2 c1; omega
 have hlast:max (p + (m.log2:Int) - 52) (-1074) = q:=by
  rcases c3 with c3 | c3
  ·have:¬ c.log2 < 52:=by rw [Nat.log2_lt h0]; omega
   omega
  ·omega
 unfold Format.nearest;rw [if_neg hm];have e1:(Ieee.double.fractionBits:Int) = 52:=rfl;rw [zqkc,e1,zqd1,f_inf];simp only [hlast]
 congr 2
 unfold rungOf
 congr 1
 obtain ⟨k,⟨h1,h2⟩ | ⟨h1,h2⟩⟩:=h
 ·rw [show (p - q).toNat = k by omega,show (q - p).toNat = 0 by omega,zqvz,Nat.shiftLeft_eq,h2]
 ·rw [show (p - q).toNat = 0 by omega,show (q - p).toNat = k by omega,Nat.shiftLeft_zero,h2,zqsn _ _ _ h0]
theorem zqe2 (neg:Bool) {r:Nat} (hr:r < 9223372036854775808):(Ieee.double.word neg r / 9223372036854775808 % 2 == 1) = neg ∧ Ieee.double.word neg r % 9223372036854775808 = r:=by
 unfold Format.word;rw [zqd2];cases neg
 ·simp only [Bool.false_eq_true,if_false];rw [Nat.div_eq_of_lt hr];exact ⟨rfl,Nat.mod_eq_of_lt hr⟩
 ·simp only [if_true];rw [show (9223372036854775808 + r) / 9223372036854775808 = 1 by omega]
  exact ⟨rfl,by omega⟩
theorem zqfk {r:Nat} (hr:r < 9218868437227405312):∃ c q,Canon c q ∧ q ≤ 971 ∧ rungOf c q = r ∧ ∀ neg,Ieee.double.read (Ieee.double.word neg r) = .number neg c q:=by
 have h2:r < 9223372036854775808:=by omega
 by_cases h:r < 4503599627370496
 ·refine ⟨r,-1074,⟨by omega,by omega,.inr rfl⟩,by omega,by simp [rungOf],fun neg => ?_⟩
  unfold Format.read;rw [zqd2,zqd1,zqkc,(zqe2 neg h2).1,(zqe2 neg h2).2,if_pos h]
 ·refine ⟨4503599627370496 + r % 4503599627370496,-1074 + ((r / 4503599627370496 - 1:Nat):Int),⟨by omega,by omega,.inl (by omega)⟩,by omega,by unfold rungOf; omega,fun neg => ?_⟩
  unfold Format.read;rw [zqd2,zqd1,zqkc,f_inf,(zqe2 neg h2).1,(zqe2 neg h2).2,if_neg h,if_pos hr]
theorem zqqa {c d:Nat} {q p:Int} (h:SameD c q d p) (hc:Canon c q) (hd:Canon d p):c = d ∧ (c ≠ 0 → q = p):=by
 by_cases h0:c = 0
 ·have:=h.zero.1 h0;exact ⟨by omega,fun e => absurd h0 e⟩
 ·have hd0:d ≠ 0:=fun e => h0 (h.zero.2 e)
  have hl:=h.log2 hd0;obtain ⟨c1,c2,c3⟩:=hc;obtain ⟨d1,d2,d3⟩:=hd;have k1:c.log2 ≤ 52:=by have:=(Nat.log2_lt h0 (k:=53)).2 c1; omega
  have k2:d.log2 ≤ 52:=by have:=(Nat.log2_lt hd0 (k:=53)).2 d1; omega
  have k3:4503599627370496 ≤ c → ¬ c.log2 < 52:=fun g => by rw [Nat.log2_lt h0]; omega
  have k4:4503599627370496 ≤ d → ¬ d.log2 < 52:=fun g => by rw [Nat.log2_lt hd0]; omega
  have hq:q = p:=by
   rcases c3 with c3 | c3 <;> rcases d3 with d3 | d3
   ·have:=k3 c3; have:=k4 d3; omega
   ·have:=k3 c3; omega
   ·have:=k4 d3; omega
   ·omega
  obtain ⟨k,⟨g1,g2⟩ | ⟨g1,g2⟩⟩:=h
  ·obtain rfl:k = 0:=by omega
   exact ⟨by simp [g2],fun _ => hq⟩
  ·obtain rfl:k = 0:=by omega
   exact ⟨by simp [g2],fun _ => hq⟩
theorem zqby {q:Int} (h:Canon 0 q):q = -1074:=by
 obtain ⟨_,_,h | h⟩:=h
 ·omega
 ·exact h
theorem zqhi {c d:Nat} {q p:Int} (h:SameD c q d p) (hc:Canon c q) (hd:Canon d p):c = d ∧ q = p:=by
 obtain ⟨h1,h2⟩:=zqqa h hc hd;subst h1;refine ⟨rfl,?_⟩
 by_cases e:c = 0
 ·subst e; rw [zqby hc,zqby hd]
 ·exact h2 e
theorem zqb1 {c:Nat} {q:Int} (hc:Canon c q) (hq:q ≤ 971):rungOf c q < 9218868437227405312:=by
 obtain ⟨c1,c2,c3⟩:=hc;unfold rungOf;omega
def FV (neg:Bool) (x:Nat) (c:Nat) (q:Int):Prop:=∃ d p,SameD c q d p ∧ Canon d p ∧ p ≤ 971 ∧ x = Ieee.double.word neg (rungOf d p)
theorem FV.read {neg:Bool} {x c:Nat} {q:Int} (h:FV neg x c q):∃ d p,SameD c q d p ∧ Canon d p ∧ p ≤ 971 ∧ x = Ieee.double.word neg (rungOf d p) ∧ Ieee.double.read x = .number neg d p:=by
 obtain ⟨d,p,h1,h2,h3,h4⟩:=h;refine ⟨d,p,h1,h2,h3,h4,?_⟩;obtain ⟨c',q',k1,k2,k3,k4⟩:=zqfk (zqb1 h2 h3);obtain ⟨e1,e2⟩:c' = d ∧ q' = p:=by
  obtain ⟨a1,a2,a3⟩:=h2;obtain ⟨b1,b2,b3⟩:=k1;unfold rungOf at k3;omega
 subst e1 e2;rw [h4]; exact k4 neg
theorem FV.same {neg:Bool} {x c d:Nat} {q p:Int} (h:FV neg x c q) (hs:SameD d p c q):FV neg x d p:=by
 obtain ⟨e,r,h1,h2⟩:=h;exact ⟨e,r,hs.trans h1,h2⟩
theorem FV.nearest {neg:Bool} {x c m:Nat} {q p:Int} (h:FV neg x c q) (hs:SameD m p c q):Ieee.double.nearest neg m p = x:=by
 obtain ⟨d,r,h1,h2,h3,h4⟩:=h.same hs
 by_cases h0:m = 0
 ·have hd:=h1.zero.1 h0;subst hd;rw [zqby h2] at h4;unfold Format.nearest;rw [if_pos h0,h4]; rfl
 ·have hd:d ≠ 0:=fun e => h0 (h1.zero.2 e)
  rw [zql8 neg h1 h2 hd,Nat.min_eq_left (Nat.le_of_lt (zqb1 h2 h3)),h4]
theorem FV.unique {neg:Bool} {x y c:Nat} {q:Int} (h:FV neg x c q) (k:FV neg y c q):x = y:=by
 rw [← h.nearest (SameD.refl c q),← k.nearest (SameD.refl c q)]
theorem FV.canon {c:Nat} {q:Int} (h:Canon c q) (hq:q ≤ 971) (neg:Bool):FV neg (Ieee.double.word neg (rungOf c q)) c q:=⟨c,q,SameD.refl _ _,h,hq,rfl⟩
theorem fv_of {x:Nat} (h:x % 9223372036854775808 < 9218868437227405312) (hx:x < 18446744073709551616):∃ c q,Canon c q ∧ q ≤ 971 ∧ x = Ieee.double.word (decide (9223372036854775808 ≤ x)) (rungOf c q) ∧ rungOf c q = x % 9223372036854775808:=by
 obtain ⟨c,q,h1,h2,h3,-⟩:=zqfk h;refine ⟨c,q,h1,h2,?_,h3⟩;rw [h3]; unfold Format.word; rw [zqd2]
 by_cases k:9223372036854775808 ≤ x
 ·simp [k]; omega
 ·simp [k]; omega
theorem zqmm:∀ (n c:Nat) (q:Int),(q + 1074).toNat ≤ n → c < 9007199254740992 → -1074 ≤ q → ∃ d p,SameD c q d p ∧ Canon d p ∧ p ≤ q
 | 0,c,q,h,hc,hq => ⟨c,q,SameD.refl _ _,⟨hc,hq,.inr (by omega)⟩,Int.le_refl _⟩
 | n + 1,c,q,h,hc,hq => by
  by_cases h1:4503599627370496 ≤ c ∨ q = -1074
  ·exact ⟨c,q,SameD.refl _ _,⟨hc,hq,h1⟩,Int.le_refl _⟩
  ·obtain ⟨d,p,k1,k2,k3⟩:=zqmm n (c * 2) (q - 1) (by omega) (by omega) (by omega)
   exact ⟨d,p,SameD.trans ⟨1,.inl ⟨by omega,by simp⟩⟩ k1,k2,by omega⟩
open Ieee
theorem SameD.mul {m c n d:Nat} {p q i j:Int} (h:SameD m p c q) (k:SameD n i d j):SameD (m * n) (p + i) (c * d) (q + j):=by
 have h1:SameD (m * n) (p + i) (c * n) (q + i):=by
  obtain ⟨a,⟨h1,h2⟩ | ⟨h1,h2⟩⟩:=h
  ·exact ⟨a,.inl ⟨by omega,by rw [h2,Nat.mul_assoc,Nat.mul_assoc,Nat.mul_comm n]⟩⟩
  ·exact ⟨a,.inr ⟨by omega,by rw [h2,Nat.mul_assoc,Nat.mul_assoc,Nat.mul_comm n]⟩⟩
 have h2:SameD (c * n) (q + i) (c * d) (q + j):=by
  obtain ⟨a,⟨h1,h2⟩ | ⟨h1,h2⟩⟩:=k
  ·exact ⟨a,.inl ⟨by omega,by rw [h2,Nat.mul_assoc]⟩⟩
  ·exact ⟨a,.inr ⟨by omega,by rw [h2,Nat.mul_assoc]⟩⟩
 exact h1.trans h2
theorem zqs3 {s t:Bool} {x y r c d:Nat} {q p:Int} (hx:FV s x c q) (hy:FV t y d p) (hr:FV (s ^^ t) r (c * d) (q + p)):floatBits .mul .f64 x y = some r:=by
 obtain ⟨m,i,h1,-,-,-,h2⟩:=hx.read;obtain ⟨n,j,k1,-,-,-,k2⟩:=hy.read;show Ieee.double.mul x y = some r
 unfold Format.mul;rw [h2,k2];simp only [Datum.product,Option.map_some,Format.write];rw [hr.nearest (h1.mul k1).symm]
theorem zqna (s:Bool) (p:Int):Ieee.double.nearest s 0 p = Ieee.double.word s 0:=by
 unfold Format.nearest;rw [if_pos rfl]
theorem zqvw {neg:Bool} (n k:Nat):Toward.zero.cut neg n k = n / 2 ^ k:=by
 simp only [Toward.cut,Nat.one_shiftLeft,Bool.toNat_false,Nat.add_zero]
 by_cases h:k ≤ n.log2 + 2
 ·rw [Nat.min_eq_left h]
 ·rw [Nat.min_eq_right (by omega)]
  have h1:n < 2 ^ (n.log2 + 1):=Nat.lt_log2_self;have h2:2 ^ (n.log2 + 1) ≤ 2 ^ (n.log2 + 2):=Nat.pow_le_pow_right (by decide) (by omega)
  have h3:2 ^ (n.log2 + 1) ≤ 2 ^ k:=Nat.pow_le_pow_right (by decide) (by omega)
  rw [Nat.div_eq_of_lt (by omega),Nat.div_eq_of_lt (by omega)]
theorem zqz2 {x c:Nat} {q:Int} (hc:Canon c q) (hq:q ≤ 971) (hx:x = Ieee.double.word false (rungOf c q)) (n:Nat) (hn:n = c * 2 ^ q.toNat / 2 ^ (-q).toNat) (h64:n < 18446744073709551616):floatToIntVal .f64 x .u64 = some (n:Int):=by
 obtain ⟨d,p,h1,h2,h3,h4,h5⟩:=FV.read ⟨c,q,SameD.refl _ _,hc,hq,hx⟩;obtain ⟨rfl,rfl⟩:=zqhi h1 hc h2;unfold floatToIntVal;have e:FloatKind.f64.decode x = .number false c q:=h5;rw [e];simp only [Datum.toInt,Datum.integral,zqvw,Nat.shiftLeft_eq,← hn,Ieee.signed,Bool.false_eq_true,if_false,Nat.pow_zero,Nat.mul_one];rw [if_pos];simp [IntKind.min,IntKind.max,IntKind.signed,IntKind.bits]; omega
def skey (x:Nat):Int:=if x < 9223372036854775808 then x else 9223372036854775808 - x
def notNan (x:Nat):Prop:=x < 18446744073709551616 ∧ x % 9223372036854775808 ≤ 9218868437227405312
theorem zqf9 {m n:Nat} {i j:Int} (hm:Canon m i) (hn:Canon n j) (base:Int) (hb:base = min i j):m * 2 ^ (i - base).toNat < n * 2 ^ (j - base).toNat ↔ rungOf m i < rungOf n j:=by
 obtain ⟨m1,m2,m3⟩:=hm;obtain ⟨n1,n2,n3⟩:=hn;rcases Int.lt_trichotomy i j with h | h | h
 ·rw [show (i - base).toNat = 0 by omega,Nat.pow_zero,Nat.mul_one]
  obtain ⟨k,hk⟩:∃ k:Nat,(j - base).toNat = k + 1:=⟨(j - base).toNat - 1,by omega⟩
  rw [hk,Nat.pow_succ];have hp:=zqay k;have:n * 1 ≤ n * 2 ^ k:=Nat.mul_le_mul_left _ hp;rw [← Nat.mul_assoc];unfold rungOf
  constructor <;> intro <;> omega
 ·rw [show (i - base).toNat = 0 by omega,show (j - base).toNat = 0 by omega,Nat.pow_zero,Nat.mul_one,Nat.mul_one]
  unfold rungOf
  constructor <;> intro <;> omega
 ·rw [show (j - base).toNat = 0 by omega,Nat.pow_zero,Nat.mul_one]
  obtain ⟨k,hk⟩:∃ k:Nat,(i - base).toNat = k + 1:=⟨(i - base).toNat - 1,by omega⟩
  rw [hk,Nat.pow_succ];have hp:=zqay k;have:m * 1 ≤ m * 2 ^ k:=Nat.mul_le_mul_left _ hp;rw [← Nat.mul_assoc];unfold rungOf
  constructor <;> intro <;> omega
theorem zqx9 {a b:Int} {c d:Int} (h1:a < b ↔ c < d) (h2:b < a ↔ d < c):compare a b = compare c d:=by
 show compareOfLessAndEq a b = compareOfLessAndEq c d
 unfold compareOfLessAndEq
 by_cases k1:a < b
 ·rw [if_pos k1,if_pos (h1.1 k1)]
 ·have k1':¬ c < d:=fun h => k1 (h1.2 h)
  rw [if_neg k1,if_neg k1']
  by_cases k2:b < a
  ·have:=h2.1 k2;rw [if_neg (by omega),if_neg (by omega)]
  ·have:¬ d < c:=fun h => k2 (h2.2 h)
   rw [if_pos (by omega),if_pos (by omega)]
theorem zquz (s:Bool) {r:Nat} (hr:r < 9223372036854775808):skey (Ieee.double.word s r) = if s then -(r:Int) else r:=by
 unfold skey Format.word;rw [zqd2];cases s
 ·simp [hr]
 ·simp only [if_true]; rw [if_neg (by omega)]; omega
theorem zqdt {x:Nat} (h:notNan x):(∃ s c q,Canon c q ∧ q ≤ 971 ∧ Ieee.double.read x = .number s c q ∧ skey x = if s then -(rungOf c q:Int) else rungOf c q) ∨ (∃ s,Ieee.double.read x = .infinity s ∧ skey x = if s then -9218868437227405312 else 9218868437227405312):=by
 obtain ⟨h1,h2⟩:=h
 by_cases e:x % 9223372036854775808 < 9218868437227405312
 ·obtain ⟨c,q,k1,k2,k3,k4⟩:=fv_of e h1;obtain ⟨d,p,l1,l2,l3,l4,l5⟩:=FV.read ⟨c,q,SameD.refl _ _,k1,k2,k3⟩;obtain ⟨rfl,rfl⟩:=zqhi l1 k1 l2;refine .inl ⟨_,c,q,k1,k2,l5,?_⟩;have:=zqb1 k1 k2;have e2:=zquz (decide (9223372036854775808 ≤ x)) (show rungOf c q < 9223372036854775808 by omega)
  rw [← k3] at e2;exact e2
 ·refine .inr ⟨decide (9223372036854775808 ≤ x),?_,?_⟩
  ·unfold Format.read;rw [zqd2,zqd1,f_inf];rw [if_neg (by omega),if_neg e,if_pos (by omega)]
   congr 1
   by_cases k:9223372036854775808 ≤ x
   ·rw [show x / 9223372036854775808 = 1 by omega]; simp [k]
   ·rw [show x / 9223372036854775808 = 0 by omega]; simp [k]
  ·unfold skey
   by_cases k:9223372036854775808 ≤ x
   ·simp only [k,decide_true,if_true]; rw [if_neg (by omega)]; omega
   ·simp only [k,decide_false,Bool.false_eq_true,if_false]; rw [if_pos (by omega)]; omega
theorem zqrr {s t:Bool} {m n:Nat} {i j:Int} (hm:Canon m i) (hn:Canon n j) (base:Int) (hb:base = min i j) :
  compare (Ieee.signed s m (i - base).toNat) (Ieee.signed t n (j - base).toNat) = compare (if s then -(rungOf m i:Int) else rungOf m i) (if t then -(rungOf n j:Int) else rungOf n j):=by
 have h1:=zqf9 hm hn base hb;have h2:=zqf9 hn hm base (by omega)
 have z1:m * 2 ^ (i - base).toNat = 0 ↔ rungOf m i = 0:=by
  have hp:=zqay (i - base).toNat
  constructor
  ·intro h;rcases Nat.mul_eq_zero.1 h with h | h
   ·subst h; rw [zqby hm]; rfl
   ·omega
  ·intro h;have:m = 0:=by unfold rungOf at h; omega
   simp [this]
 have z2:n * 2 ^ (j - base).toNat = 0 ↔ rungOf n j = 0:=by
  have hp:=zqay (j - base).toNat
  constructor
  ·intro h;rcases Nat.mul_eq_zero.1 h with h | h
   ·subst h; rw [zqby hn]; rfl
   ·omega
  ·intro h;have:n = 0:=by unfold rungOf at h; omega
   simp [this]
 unfold Ieee.signed;rw [Nat.shiftLeft_eq,Nat.shiftLeft_eq];generalize m * 2 ^ (i - base).toNat = A at *;generalize n * 2 ^ (j - base).toNat = B at *;generalize rungOf m i = C at *;generalize rungOf n j = D at *;cases s <;> cases t <;> simp only [Bool.false_eq_true,if_false,if_true] <;> apply zqx9 <;> omega
theorem zqgl {x y:Nat} (hx:notNan x) (hy:notNan y):Ieee.double.order x y = some (compare (skey x) (skey y)):=by
 unfold Format.order;rcases zqdt hx with ⟨s,m,i,h1,h2,h3,h4⟩ | ⟨s,h3,h4⟩ <;> rcases zqdt hy with ⟨t,n,j,k1,k2,k3,k4⟩ | ⟨t,k3,k4⟩ <;> rw [h3,k3,h4,k4]
 ·simp only [Datum.order];rw [zqrr h1 k1 _ rfl]
 ·have r:=zqb1 h1 h2;simp only [Datum.order];generalize rungOf m i = R at *
  congr 1
  show _ = compareOfLessAndEq _ _
  unfold compareOfLessAndEq;cases s <;> cases t <;> simp only [Bool.false_eq_true,if_false,if_true]
  ·rw [if_pos (by omega)]
  ·rw [if_neg (by omega),if_neg (by omega)]
  ·rw [if_pos (by omega)]
  ·rw [if_neg (by omega),if_neg (by omega)]
 ·have r:=zqb1 k1 k2;simp only [Datum.order];generalize rungOf n j = R at *
  congr 1
  show _ = compareOfLessAndEq _ _
  unfold compareOfLessAndEq;cases s <;> cases t <;> simp only [Bool.false_eq_true,if_false,if_true]
  ·rw [if_neg (by omega),if_neg (by omega)]
  ·rw [if_neg (by omega),if_neg (by omega)]
  ·rw [if_pos (by omega)]
  ·rw [if_pos (by omega)]
 ·cases s <;> cases t <;> rfl
theorem zqwx {x:Nat} (h:¬ x % 9223372036854775808 ≤ 9218868437227405312):∃ s t,Ieee.double.read x = .nan s t:=by
 refine ⟨x / 9223372036854775808 % 2 == 1,x % 9223372036854775808 - 9218868437227405312,?_⟩;unfold Format.read;rw [zqd2,zqd1,f_inf];rw [if_neg (by omega),if_neg (by omega),if_neg (by omega)]
theorem zqkf {x:Nat} (h:¬ x % 9223372036854775808 ≤ 9218868437227405312) (y:Nat):Ieee.double.order x y = none:=by
 obtain ⟨s,t,e⟩:=zqwx h;unfold Format.order;rw [e]; rfl
end
set_option maxRecDepth 100000
open Go.RowKit
set_option linter.unusedVariables false
theorem not64 (n:Int) (h0:0 ≤ n) (h1:n ≤ 18446744073709551615):bits .xor .u64 IntKind.u64.max n = 18446744073709551615 - n:=by
 obtain ⟨N,rfl⟩:=Int.eq_ofNat_of_zero_le h0;show IntKind.u64.wrap ((BitVec.ofInt 64 18446744073709551615 ^^^ BitVec.ofInt 64 (N:Int)).toNat:Int) = _
 have e:BitVec.ofInt 64 18446744073709551615 = BitVec.allOnes 64:=by decide
 rw [e,BitVec.allOnes_xor,BitVec.toNat_not,BitVec.ofInt_natCast,BitVec.toNat_ofNat,IntKind.wrap_u64];omega
theorem or63 (n:Int) (h0:0 ≤ n) (h1:n < 9223372036854775808):bits .or .u64 n 9223372036854775808 = n + 9223372036854775808:=by
 obtain ⟨N,rfl⟩:=Int.eq_ofNat_of_zero_le h0;have:=zqlc 1 N 63 (by omega) (by omega)
 have e:((2 ^ 63 * 1:Nat):Int) = 9223372036854775808:=by decide
 rw [e] at this;rw [this]; omega
theorem clr63 (n:Int) (h0:0 ≤ n) (h1:n ≤ 18446744073709551615):bits .andNot .u64 n 9223372036854775808 = n % 9223372036854775808:=by
 rw [u64_andNot n _ h0 (by omega) (by omega) (by omega)]
 have e:(18446744073709551615 - (9223372036854775808:Int).toNat:Nat) = 2 ^ 63 - 1:=by decide
 rw [e,Nat.and_two_pow_sub_one_eq_mod];omega
theorem and63 (N:Nat) (h:N < 2 ^ 64):N &&& 2 ^ 63 = if N < 2 ^ 63 then 0 else 2 ^ 63:=by
 have key:N &&& 2 ^ 63 = if N.testBit 63 then 2 ^ 63 else 0:=by
  apply Nat.eq_of_testBit_eq;intro i;rw [Nat.testBit_and,Nat.testBit_two_pow]
  by_cases hi:63 = i
  ·subst hi;cases N.testBit 63
   ·rw [Bool.false_and,if_neg (by decide),Nat.zero_testBit]
   ·rw [Bool.true_and,if_pos rfl,Nat.testBit_two_pow]
  ·have h2:decide (63 = i) = false:=by simpa using hi
   cases N.testBit 63
   ·rw [h2,Bool.and_false,if_neg (by decide),Nat.zero_testBit]
   ·rw [h2,Bool.and_false,if_pos rfl,Nat.testBit_two_pow,h2]
 rw [key,Nat.testBit_eq_decide_div_mod_eq]
 by_cases h:N < 2 ^ 63
 ·rw [if_pos h,show N / 2 ^ 63 = 0 by omega]; rfl
 ·rw [if_neg h,show N / 2 ^ 63 = 1 by omega]; rfl
theorem sgn63 (n:Int) (h0:0 ≤ n) (h1:n ≤ 18446744073709551615):bits .and .u64 n 9223372036854775808 = if n < 9223372036854775808 then 0 else 9223372036854775808:=by
 obtain ⟨N,rfl⟩:=Int.eq_ofNat_of_zero_le h0;have e:(9223372036854775808:Int) = ((2 ^ 63:Nat):Int):=by decide
 rw [e,bits_and_u64_nat _ _ (by omega) (by omega),and63 N (by omega)]
 by_cases h:N < 2 ^ 63
 ·rw [if_pos h,if_pos (by omega)]; rfl
 ·rw [if_neg h,if_neg (by omega)]
theorem low11 (n:Int) (h0:0 ≤ n) (h1:n ≤ 18446744073709551615):bits .and .u64 n 2047 = n % 2048:=by
 obtain ⟨N,rfl⟩:=Int.eq_ofNat_of_zero_le h0;have e:(2047:Int) = ((2 ^ 11 - 1:Nat):Int):=by decide
 rw [e,bits_and_u64_nat _ _ (by omega) (by omega),Nat.and_two_pow_sub_one_eq_mod]
 omega
theorem clrExp (n:Int) (h0:0 ≤ n) (h1:n < 9223372036854775808):bits .andNot .u64 n 9218868437227405312 = n % 4503599627370496:=by
 obtain ⟨N,rfl⟩:=Int.eq_ofNat_of_zero_le h0;rw [u64_andNot _ _ h0 (by omega) (by omega) (by omega)]
 have e:(18446744073709551615 - (9218868437227405312:Int).toNat:Nat) = 2 ^ 63 ||| (2 ^ 52 - 1):=by decide
 have e2:N &&& (2 ^ 63 ||| (2 ^ 52 - 1)) = N % 2 ^ 52:=by
  apply Nat.eq_of_testBit_eq;intro i;rw [Nat.testBit_and,Nat.testBit_or,Nat.testBit_two_pow,Nat.testBit_two_pow_sub_one,Nat.testBit_mod_two_pow]
  by_cases hi:i = 63
  ·subst hi;have:N.testBit 63 = false:=Nat.testBit_lt_two_pow (by omega)
   simp [this]
  ·have:decide (63 = i) = false:=by simp; omega
   rw [this,Bool.false_or,Bool.and_comm]
 rw [e,Int.toNat_natCast,e2];omega
theorem orExp (f:Int) (e:Nat) (f0:0 ≤ f) (f1:f < 4503599627370496) (e1:e < 4096):bits .or .u64 f ((e:Int) * 4503599627370496) = f + (e:Int) * 4503599627370496:=by
 obtain ⟨F,rfl⟩:=Int.eq_ofNat_of_zero_le f0;have:=zqlc e F 52 (by omega) (by omega)
 have h:((2 ^ 52 * e:Nat):Int) = (e:Int) * 4503599627370496:=by omega
 rw [h] at this;rw [this]; omega
theorem fbits (x:Nat) (w:World):(callFunc 161 #[.float .f64 x]).run Tryz.prog w = .ok (.value (.int .u64 x)) w:=by
 rw [run_callFunc_extern Tryz.func161 (by kernel_rfl) (by kernel_rfl) (by kernel_rfl) (e:=Extern.MathFloatBits.float64bits) (by kernel_rfl)]
 rfl
theorem ffrom (n:Int) (w:World):(callFunc 215 #[.int .u64 n]).run Tryz.prog w = .ok (.value (.float .f64 n.toNat)) w:=by
 rw [run_callFunc_extern Tryz.func215 (by kernel_rfl) (by kernel_rfl) (by kernel_rfl) (e:=Extern.MathFloatBits.float64frombits) (by kernel_rfl)]
 rfl
theorem zqui {a b:Nat} (h:a = b):Ending.returned (.float .f64 a) = .returned (.float .f64 b):=by rw [h]
abbrev W64 (x:Nat):Prop:=x < 18446744073709551616
def isNaNB (x:Nat):Bool:=decide (9218868437227405312 < x % 9223372036854775808)
def isInfB (x:Nat):Bool:=decide (x % 9223372036854775808 = 9218868437227405312)
def isZeroB (x:Nat):Bool:=decide (x % 9223372036854775808 = 0)
def negB (x:Nat):Bool:=decide (9223372036854775808 ≤ x)
theorem zqal {x:Nat} (h:W64 x) (hn:isNaNB x = false):notNan x:=⟨h,by simpa [isNaNB] using hn⟩
theorem zqgi {x:Nat} (hn:isNaNB x = true):¬ x % 9223372036854775808 ≤ 9218868437227405312:=by simpa [isNaNB] using hn
theorem zqqg (a b:Int):(compare a b == Ordering.eq) = decide (a = b):=by
 show (compareOfLessAndEq a b == Ordering.eq) = _
 unfold compareOfLessAndEq
 by_cases h1:a < b
 ·rw [if_pos h1]; simp; omega
 ·rw [if_neg h1]
  by_cases h2:a = b
  ·simp [h2]
  ·simp [h2]
theorem zqqi (a b:Int):(compare a b == Ordering.lt) = decide (a < b):=by
 show (compareOfLessAndEq a b == Ordering.lt) = _
 unfold compareOfLessAndEq
 by_cases h1:a < b
 ·simp [h1]
 ·rw [if_neg h1]
  by_cases h2:a = b
  ·simp [h2]
  ·simp [h1,h2]
theorem zqqh (a b:Int):(compare a b == Ordering.gt) = decide (b < a):=by
 show (compareOfLessAndEq a b == Ordering.gt) = _
 unfold compareOfLessAndEq
 by_cases h1:a < b
 ·rw [if_pos h1]; simp; omega
 ·rw [if_neg h1]
  by_cases h2:a = b
  ·simp [h2]
  ·have:b < a:=by omega
   simp [h2,this]
theorem zqfd {x y:Nat} (hx:notNan x) (hy:notNan y):(FloatKind.f64.format.order x y == some .eq) = decide (skey x = skey y):=by
 show (Ieee.double.order x y == some .eq) = _
 rw [zqgl hx hy,← zqqg]; rfl
theorem zqjj {x y:Nat} (hx:notNan x) (hy:notNan y):(FloatKind.f64.format.order x y == some .lt) = decide (skey x < skey y):=by
 show (Ieee.double.order x y == some .lt) = _
 rw [zqgl hx hy,← zqqi]; rfl
theorem zqtz {x y:Nat} (hx:notNan x) (hy:notNan y):(FloatKind.f64.format.order x y == some .gt) = decide (skey y < skey x):=by
 show (Ieee.double.order x y == some .gt) = _
 rw [zqgl hx hy,← zqqh]; rfl
theorem zqbq {x:Nat} (hx:isNaNB x = true) (y:Nat) (o:Ordering):(FloatKind.f64.format.order x y == some o) = false:=by
 show (Ieee.double.order x y == some o) = _
 rw [zqkf (zqgi hx)]; rfl
theorem zqdb {α:Type} [BEq α] {a b:α} {c:Bool} (h:(a == b) = c):(a != b) = !c:=by rw [bne,h]
theorem zqeo (x:Nat) (w:World) (hx:W64 x) :
  Calls Tryz.prog 160 #[.float .f64 x] w fun e w' => e = .returned (.bool (isNaNB x)) ∧ w = w':=by
 have H:(FloatKind.f64.format.order x x != some .eq) = isNaNB x:=by
  by_cases h:isNaNB x = true
  ·rw [zqdb (zqbq h x .eq),h]; rfl
  ·have h':isNaNB x = false:=by simpa using h
   rw [zqdb (zqfd (zqal hx h') (zqal hx h')),h']; simp
 go_enter Tryz.func160,Tryz.ntmps160;go_wp2
 all_goals (go_ret; exact ⟨rfl,rfl⟩)
theorem zqe6 (x:Nat) (w:World) (hx:W64 x) :
  Calls Tryz.prog 162 #[.float .f64 x] w fun e w' => e = .returned (.bool (negB x)) ∧ w = w':=by
 have hF:=fun w => fbits x w
 go_enter Tryz.func162,Tryz.ntmps162;go_wp2
 all_goals (go_ret; refine ⟨zqca ?_,rfl⟩)
 all_goals (rw [negB,wrap64]; by_cases h:9223372036854775808 ≤ x <;> simp [h] <;> omega)
theorem zqh0 (x:Nat) (w:World) (hx:W64 x) :
  Calls Tryz.prog 207 #[.float .f64 x] w fun e w' => e = .returned (.float .f64 (x % 9223372036854775808)) ∧ w = w':=by
 have hF:=fun w => fbits x w
 have hG:=fun n w => ffrom n w
 have hC:=clr63 (x:Int) (by omega) (by omega)
 go_enter Tryz.func207,Tryz.ntmps207;go_wp2
 all_goals (go_ret; refine ⟨zqui ?_,rfl⟩)
 all_goals omega
set_option maxRecDepth 100000
open Go.RowKit
set_option linter.unusedVariables false
theorem zqzr (x:Nat):W64 (x % 9223372036854775808):=by unfold W64; omega
theorem zqk5 (x:Nat):isNaNB (x % 9223372036854775808) = isNaNB x:=by unfold isNaNB; rw [Nat.mod_mod]
theorem zqbg {x:Nat} (h:x < 9223372036854775808):skey x = x:=by unfold skey; rw [if_pos h]
theorem zqnp {x:Nat} (h:9223372036854775808 ≤ x):skey x = 9223372036854775808 - x:=by unfold skey; rw [if_neg (by omega)]
theorem zqwo (x:Nat) (hx:W64 x):(FloatKind.f64.format.order (x % 9223372036854775808) 9218868437227405311 == some .gt) = isInfB x:=by
 have h9:notNan 9218868437227405311:=⟨by decide,by decide⟩
 by_cases h:isNaNB x = true
 ·rw [zqbq (by rw [zqk5,h])]
  have:=zqgi h;unfold isInfB;simp; omega
 ·have h':isNaNB x = false:=by simpa using h
  rw [zqtz (zqal (zqzr x) (by rw [zqk5,h'])) h9,zqbg (by omega),zqbg (by omega)]
  have:=(zqal hx h').2;unfold isInfB;rw [decide_eq_decide]; omega
theorem zqk4 (x:Nat) (w:World) (hx:W64 x) :
  Calls Tryz.prog 204 #[.float .f64 x,.int .i64 0] w fun e w' => e = .returned (.bool (isInfB x)) ∧ w = w':=by
 have H:=zqwo x hx;have hA:=zh (zqh0 x w hx);go_enter Tryz.func204,Tryz.ntmps204;go_wp2_with fail;refine (hA.out).mono ?_; rintro e w' ⟨rfl,rfl⟩;clear hA;go_wp2_with fail
 all_goals (go_ret; exact ⟨rfl,rfl⟩)
theorem zqdj (x:Nat) (hx:W64 x):(FloatKind.f64.format.order x 0 == some .eq) = isZeroB x:=by
 have h9:notNan 0:=⟨by decide,by decide⟩
 by_cases h:isNaNB x = true
 ·rw [zqbq h];have:=zqgi h;unfold isZeroB;simp; omega
 ·have h':isNaNB x = false:=by simpa using h
  rw [zqfd (zqal hx h') h9,zqbg (x:=0) (by omega)]
  unfold W64 at hx;unfold isZeroB skey;rw [decide_eq_decide]
  by_cases k:x < 9223372036854775808
  ·rw [if_pos k]; omega
  ·rw [if_neg k]; omega
def kindI (x:Nat):Int:=if isNaNB x then 3 else if isInfB x then 2 else if isZeroB x then 0 else 1
set_option maxHeartbeats 400000 in
theorem zqk0 (x:Nat) (w:World) (hx:W64 x) :
  Calls Tryz.prog 205 #[.float .f64 x] w fun e w' => e = .returned (.int .i64 (kindI x)) ∧ w = w':=by
 have hA:=zh (zqeo x w hx);have hB:=zh (zqk4 x w hx);have hZ:=zqdj x hx;unfold kindI;generalize isNaNB x = n at *;generalize isInfB x = i at *;generalize isZeroB x = z at *;cases n <;> cases i <;> cases z
 all_goals
  go_enter Tryz.func205,Tryz.ntmps205;go_wp2_with fail;refine (hA.out).mono ?_; rintro e w' ⟨rfl,rfl⟩;go_wp2_with fail
  first
   | (go_ret; exact ⟨rfl,rfl⟩)
   | (refine (hB.out).mono ?_; rintro e w' ⟨rfl,rfl⟩; go_wp2_with fail; go_ret; exact ⟨rfl,rfl⟩)
def keyI (x:Nat):Int:=if isNaNB x then 18446744073709551615 else if negB x then 18446744073709551615 - x else x + 9223372036854775808
theorem zqtf {x:Nat} (hx:W64 x):0 ≤ keyI x ∧ keyI x ≤ 18446744073709551615:=by
 unfold W64 at hx;unfold keyI negB
 by_cases h:isNaNB x = true
 ·rw [if_pos h]; omega
 ·rw [if_neg h]
  by_cases k:9223372036854775808 ≤ x
  ·simp only [k,decide_true,if_true]; omega
  ·simp only [k,decide_false,Bool.false_eq_true,if_false]; omega
set_option maxHeartbeats 400000 in
theorem zqfr (x:Nat) (w:World) (hx:W64 x) :
  Calls Tryz.prog 127 #[.float .f64 x] w fun e w' => e = .returned (.int .u64 (keyI x)) ∧ w = w':=by
 have hA:=zh (zqeo x w hx);have hS:=zh (zqe6 x w hx);have hF:=fun w => fbits x w
 have hN:=not64 (x:Int) (by omega) (by unfold W64 at hx; omega)
 have hO:negB x = false → bits .or .u64 (x:Int) 9223372036854775808 = x + 9223372036854775808:=fun h => or63 _ (by omega) (by simp [negB] at h; omega)
 unfold keyI;generalize isNaNB x = n at *;cases n
 ·by_cases hs:negB x = true
  ·rw [hs] at hS ⊢;clear hO;go_enter Tryz.func127,Tryz.ntmps127;go_wp2_with fail;refine (hA.out).mono ?_; rintro e w' ⟨rfl,rfl⟩;go_wp2_with fail;refine (hS.out).mono ?_; rintro e w' ⟨rfl,rfl⟩;go_wp2_with fail;go_ret;exact ⟨rfl,rfl⟩
  ·have hs':negB x = false:=by simpa using hs
   have hO:=hO hs';rw [hs'] at hS ⊢;clear hN;go_enter Tryz.func127,Tryz.ntmps127;go_wp2_with fail;refine (hA.out).mono ?_; rintro e w' ⟨rfl,rfl⟩;go_wp2_with fail;refine (hS.out).mono ?_; rintro e w' ⟨rfl,rfl⟩;go_wp2_with fail;go_ret;exact ⟨rfl,rfl⟩
 ·clear hN hO;go_enter Tryz.func127,Tryz.ntmps127;go_wp2_with fail;refine (hA.out).mono ?_; rintro e w' ⟨rfl,rfl⟩;go_wp2_with fail;go_ret;exact ⟨rfl,rfl⟩
def sameB (x y:Nat):Bool:=decide (keyI x = keyI y)
def lessB (x y:Nat):Bool:=decide (keyI x < keyI y)
theorem zqk1 (x y:Nat) (w:World) (hx:W64 x) (hy:W64 y) :
  Calls Tryz.prog 73 #[.float .f64 x,.float .f64 y] w fun e w' => e = .returned (.bool (sameB x y)) ∧ w = w':=by
 have hA:=zh (zqfr x w hx);have hB:=zh (zqfr y w hy);unfold sameB;generalize keyI x = p at *;generalize keyI y = q at *;go_enter Tryz.func73,Tryz.ntmps73;go_wp2_with fail;refine (hA.out).mono ?_; rintro e w' ⟨rfl,rfl⟩;go_wp2_with fail;refine (hB.out).mono ?_; rintro e w' ⟨rfl,rfl⟩;go_wp2_with fail;go_ret;exact ⟨zqca (by first | rfl | (rw [Bool.beq_eq_decide_eq]) | grind),rfl⟩
theorem zqgc (x y:Nat) (w:World) (hx:W64 x) (hy:W64 y) :
  Calls Tryz.prog 159 #[.float .f64 x,.float .f64 y] w fun e w' => e = .returned (.bool (lessB x y)) ∧ w = w':=by
 have hA:=zh (zqfr x w hx);have hB:=zh (zqfr y w hy);unfold lessB;generalize keyI x = p at *;generalize keyI y = q at *;go_enter Tryz.func159,Tryz.ntmps159;go_wp2_with fail;refine (hA.out).mono ?_; rintro e w' ⟨rfl,rfl⟩;go_wp2_with fail;refine (hB.out).mono ?_; rintro e w' ⟨rfl,rfl⟩;go_wp2_with fail;go_ret;exact ⟨rfl,rfl⟩
theorem zqqm (x y:Nat) (w:World) (hx:W64 x) (hy:W64 y) :
  Calls Tryz.prog 154 #[.float .f64 x,.float .f64 y] w fun e w' => e = .returned (.float .f64 (if lessB y x then y else x)) ∧ w = w':=by
 have hA:=zh (zqgc y x w hy hx);generalize lessB y x = l at *;cases l
 all_goals
  go_enter Tryz.func154,Tryz.ntmps154;go_wp2_with fail;refine (hA.out).mono ?_; rintro e w' ⟨rfl,rfl⟩;go_wp2_with fail;go_ret;exact ⟨rfl,rfl⟩
theorem zqsz (x y:Nat) (w:World) (hx:W64 x) (hy:W64 y) :
  Calls Tryz.prog 155 #[.float .f64 x,.float .f64 y] w fun e w' => e = .returned (.float .f64 (if lessB x y then y else x)) ∧ w = w':=by
 have hA:=zh (zqgc x y w hx hy);generalize lessB x y = l at *;cases l
 all_goals
  go_enter Tryz.func155,Tryz.ntmps155;go_wp2_with fail;refine (hA.out).mono ?_; rintro e w' ⟨rfl,rfl⟩;go_wp2_with fail;go_ret;exact ⟨rfl,rfl⟩
set_option maxRecDepth 100000
open Go.RowKit
set_option linter.unusedVariables false
def Drawn (w w':World):Prop:=∃ n,w' = w.drewN n
theorem Drawn.refl (w:World):Drawn w w:=⟨0,rfl⟩
theorem Drawn.next {w v:World} (h:Drawn w v) (n:Nat):Drawn w (v.drewN n):=by
 obtain ⟨k,rfl⟩:=h;exact ⟨k + n,by simp [World.drewN,Nat.add_assoc]⟩
theorem Drawn.one {w v:World} (h:Drawn w v):Drawn w v.drew:=h.next 1
theorem Drawn.trans {u v w:World} (h:Drawn u v) (k:Drawn v w):Drawn u w:=by
 obtain ⟨n,rfl⟩:=k; exact h.next n
theorem Drawn.below {w v:World} (h:Drawn w v):Below w.heap.size w v:=by
 obtain ⟨k,rfl⟩:=h; exact below_drewN (Below.refl _ _) k
def nanOf (w:World) (x:Nat):Nat:=(Question.nanBits .f64 x x).cut (w.tape w.drawn (Question.nanBits .f64 x x))
theorem zqtr (w:World) (x:Nat):isNaNB (nanOf w x) = true ∧ W64 (nanOf w x):=by
 have key:∀ t:Nat,9218868437227405312 < (t % 2 * 9223372036854775808 + 9218868437227405312 + 1 + t / 2 % 4503599627370495) % 9223372036854775808 ∧ t % 2 * 9223372036854775808 + 9218868437227405312 + 1 + t / 2 % 4503599627370495 < 18446744073709551616:=fun t => by
  have h1:t / 2 % 4503599627370495 < 4503599627370495:=Nat.mod_lt _ (by decide)
  generalize t / 2 % 4503599627370495 = u at *;rcases Nat.mod_two_eq_zero_or_one t with h | h <;> rw [h] <;> omega
 have h:=key (w.tape w.drawn (Question.nanBits .f64 x x));exact ⟨decide_eq_true h.1,h.2⟩
theorem zqzk {x:Nat} (hx:W64 x) (h:isInfB x = true):floatBits .sub .f64 x x = none:=by
 have hn:notNan x:=⟨hx,by unfold isInfB at h; simp at h; omega⟩
 show Ieee.double.sub x x = none
 unfold Ieee.Format.sub;rcases zqdt hn with ⟨s,c,q,h1,h2,h3,h4⟩ | ⟨s,h3,h4⟩
 ·have:=zqb1 h1 h2;unfold isInfB at h;simp only [decide_eq_true_eq] at h;unfold W64 at hx;unfold skey at h4;cases s
  ·simp only [Bool.false_eq_true,if_false] at h4
   by_cases k:x < 9223372036854775808
   ·rw [if_pos k] at h4; omega
   ·rw [if_neg k] at h4; omega
  ·simp only [if_true] at h4
   by_cases k:x < 9223372036854775808
   ·rw [if_pos k] at h4; omega
   ·rw [if_neg k] at h4; omega
 ·rw [h3]; cases s <;> rfl
theorem zqzj {x:Nat} (hx:W64 x) (h:isInfB x = false) (hn:isNaNB x = false):floatBits .sub .f64 x x = some 0:=by
 have hn:=zqal hx hn;show Ieee.double.sub x x = some 0
 unfold Ieee.Format.sub;rcases zqdt hn with ⟨s,c,q,h1,h2,h3,h4⟩ | ⟨s,h3,h4⟩
 ·rw [h3];simp only [Ieee.Datum.opposite,Ieee.Datum.sum];have e:Ieee.signed s c (q - min q q).toNat + Ieee.signed (!s) c (q - min q q).toNat = 0:=by
   rw [Int.min_self,Int.sub_self];unfold Ieee.signed;cases s <;> simp <;> omega
  rw [e];cases s <;> rfl
 ·unfold isInfB at h;unfold W64 at hx;unfold skey at h4;simp at h;cases s
  ·simp only [Bool.false_eq_true,if_false] at h4
   by_cases k:x < 9223372036854775808
   ·rw [if_pos k] at h4; omega
   ·rw [if_neg k] at h4; omega
  ·simp only [if_true] at h4
   by_cases k:x < 9223372036854775808
   ·rw [if_pos k] at h4; omega
   ·rw [if_neg k] at h4; omega
theorem zqza {P:Program} (x:Nat) (h:floatBits .sub .f64 x x = none) (t:TypeId) (w:World):(binOp .sub t (.float .f64 x) (.float .f64 x)).run P w = .ok (.float .f64 (nanOf w x)) w.drew:=by
 have h2:FloatKind.f64.format.sub x x = none:=h;simp [binOp,Op.floatArith,h2,nanOf,Question.forced]
set_option maxHeartbeats 400000 in
theorem zqex (x:Nat) (w:World) (hx:W64 x) :
  Calls Tryz.prog 84 #[.float .f64 x] w fun e w' => e = .returned (.int .i64 (kindI x)) ∧ Drawn w w':=by
 have hZ:=zqdj x hx;unfold kindI
 by_cases hn:isNaNB x = true
 ·have hE:(FloatKind.f64.format.order x x != some .eq) = true:=by rw [zqdb (zqbq hn x .eq)]; rfl
  rw [hn];go_enter Tryz.func84,Tryz.ntmps84;go_wp2_with fail;go_ret;exact ⟨rfl,Drawn.refl _⟩
 ·have hn':isNaNB x = false:=by simpa using hn
  have hE:(FloatKind.f64.format.order x x != some .eq) = false:=by rw [zqdb (zqfd (zqal hx hn') (zqal hx hn'))]; simp
  rw [hn']
  by_cases hi:isInfB x = true
  ·have hz:isZeroB x = false:=by unfold isInfB at hi; unfold isZeroB; simp at hi ⊢; omega
   rw [hz] at hZ;rw [hi,hz];have hop:=fun t w => zqza (P:=Tryz.prog) x (zqzk hx hi) t w
   have hq:(FloatKind.f64.format.order (nanOf w x) 0 != some .eq) = true:=by rw [zqdb (zqbq (zqtr w x).1 0 .eq)]; rfl
   clear hz hi hn' hn;go_enter Tryz.func84,Tryz.ntmps84;go_wp2_with (simp only [hop]);go_ret;exact ⟨rfl,(Drawn.refl _).one⟩
  ·have hi':isInfB x = false:=by simpa using hi
   rw [hi'];have hop:∀ t w,(binOp .sub t (.float .f64 x) (.float .f64 x)).run Tryz.prog w = .ok (.float .f64 0) w:=fun t w => run_float_arith w .sub t .f64 x x 0 (zqzj hx hi' hn')
   have hq:(FloatKind.f64.format.order 0 0 != some .eq) = false:=by rw [zqdb (zqfd (x:=0) (y:=0) ⟨by decide,by decide⟩ ⟨by decide,by decide⟩)]; rfl
   generalize isZeroB x = z at *;clear hi' hi hn' hn;cases z
   all_goals
    go_enter Tryz.func84,Tryz.ntmps84;go_wp2_with (simp only [hop]);go_ret;exact ⟨rfl,Drawn.refl _⟩
def belowB (x:Nat):Bool:=!isNaNB x && negB x
set_option maxHeartbeats 400000 in
theorem zqdp (x:Nat) (w:World) (hx:W64 x) :
  Calls Tryz.prog 85 #[.float .f64 x] w fun e w' => e = .returned (.bool (belowB x)) ∧ w = w':=by
 have hZ:=zqdj x hx
 by_cases hn:isNaNB x = true
 ·have hL:=zqbq hn 0 .lt;have hz:isZeroB x = false:=by have:=zqgi hn; unfold isZeroB; simp; omega
  rw [hz] at hZ;have hr:belowB x = false:=by unfold belowB; rw [hn]; rfl
  rw [hr];clear hn hz hr;go_enter Tryz.func85,Tryz.ntmps85;go_wp2_with fail;go_ret;exact ⟨rfl,rfl⟩
 ·have hn':isNaNB x = false:=by simpa using hn
  have hr:belowB x = negB x:=by unfold belowB; rw [hn']; rfl
  have hL:=zqjj (zqal hx hn') (y:=0) ⟨by decide,by decide⟩
  rw [zqbg (x:=0) (by omega)] at hL
  rw [hr]
  by_cases hz:isZeroB x = true
  ·have hz2:x = 0 ∨ x = 9223372036854775808:=by unfold isZeroB at hz; unfold W64 at hx; simp at hz; omega
   clear hr hn hn' hz hZ hL;rcases hz2 with rfl | rfl
   ·have hop:∀ t w,(binOp .quo t (.float .f64 4607182418800017408) (.float .f64 0)).run Tryz.prog w = .ok (.float .f64 9218868437227405312) w:=fun t w => run_float_arith w .quo t .f64 _ _ _ (by decide +kernel)
    have h1:(FloatKind.f64.format.order 0 0 == some .lt) = false:=by decide +kernel
    have h2:(FloatKind.f64.format.order 0 0 == some .eq) = true:=by decide +kernel
    have h3:(FloatKind.f64.format.order 9218868437227405312 0 == some .lt) = false:=by decide +kernel
    have h4:negB 0 = false:=by decide
    rw [h4];clear h4;go_enter Tryz.func85,Tryz.ntmps85;go_wp2_with (simp only [hop]);go_ret;exact ⟨rfl,rfl⟩
   ·have hop:∀ t w,(binOp .quo t (.float .f64 4607182418800017408) (.float .f64 9223372036854775808)).run Tryz.prog w = .ok (.float .f64 18442240474082181120) w:=fun t w => run_float_arith w .quo t .f64 _ _ _ (by decide +kernel)
    have h1:(FloatKind.f64.format.order 9223372036854775808 0 == some .lt) = false:=by decide +kernel
    have h2:(FloatKind.f64.format.order 9223372036854775808 0 == some .eq) = true:=by decide +kernel
    have h3:(FloatKind.f64.format.order 18442240474082181120 0 == some .lt) = true:=by decide +kernel
    have h4:negB 9223372036854775808 = true:=by decide
    rw [h4];clear h4;go_enter Tryz.func85,Tryz.ntmps85;go_wp2_with (simp only [hop]);go_ret;exact ⟨rfl,rfl⟩
  ·have hz':isZeroB x = false:=by simpa using hz
   have hN:decide (skey x < ((0:Nat):Int)) = negB x:=by
    unfold isZeroB at hz';unfold W64 at hx;unfold negB skey;simp only [decide_eq_false_iff_not] at hz';rw [decide_eq_decide]
    by_cases k:x < 9223372036854775808
    ·rw [if_pos k]; omega
    ·rw [if_neg k]; omega
   rw [hz'] at hZ;rw [hN] at hL;generalize negB x = b at *;clear hN hz hz' hr hn hn';cases b
   all_goals
    go_enter Tryz.func85,Tryz.ntmps85;go_wp2_with fail;go_ret;exact ⟨rfl,rfl⟩
def flipN (x:Nat):Nat:=if x < 9223372036854775808 then x + 9223372036854775808 else x - 9223372036854775808
theorem zqwi {x:Nat} (hx:W64 x):W64 (flipN x):=by
 unfold W64 at *;unfold flipN
 by_cases k:x < 9223372036854775808
 ·rw [if_pos k]; omega
 ·rw [if_neg k]; omega
theorem zqwz (x:Nat) (hx:W64 x):Op.negFloat .f64 x = flipN x:=by
 show x ^^^ 2 ^ 63 = flipN x
 unfold W64 at hx;unfold flipN
 by_cases k:x < 9223372036854775808
 ·rw [if_pos k];have h:=Nat.two_pow_add_eq_or_of_lt (i:=63) (b:=x) (by omega) 1
  have h2:x ^^^ 2 ^ 63 = x ||| 2 ^ 63:=by
   apply Nat.eq_of_testBit_eq;intro i;rw [Nat.testBit_xor,Nat.testBit_or,Nat.testBit_two_pow]
   by_cases hi:63 = i
   ·subst hi;rw [Nat.testBit_lt_two_pow (x:=x) (by omega)]; rfl
   ·simp [hi]
  rw [h2,Nat.or_comm];rw [Nat.mul_one] at h;rw [← h]; omega
 ·rw [if_neg k];obtain ⟨y,rfl⟩:∃ y,x = 9223372036854775808 + y:=⟨x - 9223372036854775808,by omega⟩
  have h:=Nat.two_pow_add_eq_or_of_lt (i:=63) (b:=y) (by omega) 1
  rw [Nat.mul_one] at h;have e:(9223372036854775808:Nat) = 2 ^ 63:=by decide
  rw [e,h];have h2:(2 ^ 63 ||| y) ^^^ 2 ^ 63 = y:=by
   apply Nat.eq_of_testBit_eq;intro i;rw [Nat.testBit_xor,Nat.testBit_or,Nat.testBit_two_pow]
   by_cases hi:63 = i
   ·subst hi;rw [Nat.testBit_lt_two_pow (x:=y) (by omega)]; rfl
   ·simp [hi]
  rw [h2,← h]; omega
theorem zqzb {P:Program} (x:Nat) (hx:W64 x) (w:World):(Op.unary .neg (.float .f64 x)).run P w = .ok (.float .f64 (flipN x)) w:=by
 rw [← zqwz x hx]; rfl
set_option maxRecDepth 100000
open Go.RowKit
set_option linter.unusedVariables false
theorem zqbj {x:Nat} (hx:W64 x):(isNaNB x = true ∧ keyI x = 18446744073709551615) ∨
  (isNaNB x = false ∧ negB x = true ∧ belowB x = true ∧ 9223372036854775808 ≤ x ∧ x ≤ 18442240474082181120 ∧ keyI x = 18446744073709551615 - x ∧ skey x = 9223372036854775808 - x) ∨
  (isNaNB x = false ∧ negB x = false ∧ belowB x = false ∧ x ≤ 9218868437227405312 ∧ keyI x = x + 9223372036854775808 ∧ skey x = x):=by
 by_cases hn:isNaNB x = true
 ·exact .inl ⟨hn,by unfold keyI; rw [if_pos hn]⟩
 ·have hn':isNaNB x = false:=by simpa using hn
  have h2:=(zqal hx hn').2;unfold W64 at hx;refine .inr ?_
  by_cases k:9223372036854775808 ≤ x
  ·have hb:negB x = true:=by unfold negB; simp [k]
   refine .inl ⟨hn',hb,by unfold belowB; rw [hn',hb]; rfl,k,by omega,?_,zqnp k⟩
   unfold keyI;rw [if_neg hn,if_pos hb]
  ·have hb:negB x = false:=by unfold negB; simp; omega
   refine .inr ⟨hn',hb,by unfold belowB; rw [hn',hb]; rfl,by omega,?_,zqbg (by omega)⟩
   unfold keyI;rw [if_neg hn,hb,if_neg (by decide)]
theorem zqd6 (x:Nat):(kindI x == 3) = isNaNB x:=by
 unfold kindI;cases isNaNB x
 ·cases isInfB x <;> cases isZeroB x <;> rfl
 ·rfl
theorem zqxj {x y:Nat} (hx:W64 x) (hy:W64 y) (h:isNaNB x = true ∨ isNaNB y = true):sameB x y = (isNaNB x && isNaNB y):=by
 unfold sameB;rcases zqbj hx with ⟨h1,h2⟩ | ⟨h1,h2,h3,h4,h5,h6,h7⟩ | ⟨h1,h2,h3,h4,h5,h6⟩ <;> rcases zqbj hy with ⟨k1,k2⟩ | ⟨k1,k2,k3,k4,k5,k6,k7⟩ | ⟨k1,k2,k3,k4,k5,k6⟩
 all_goals (rw [h1,k1] at h ⊢; simp at h)
 all_goals (simp; omega)
theorem zqxk {x y:Nat} (hx:W64 x) (hy:W64 y) (h1:isNaNB x = false) (k1:isNaNB y = false):sameB x y = ((FloatKind.f64.format.order x y == some .eq) && (belowB x == belowB y)):=by
 rw [zqfd (zqal hx h1) (zqal hy k1)];unfold sameB;rcases zqbj hx with ⟨h,h2⟩ | ⟨h,h2,h3,h4,h5,h6,h7⟩ | ⟨h,h2,h3,h4,h5,h6⟩ <;> rcases zqbj hy with ⟨k,k2⟩ | ⟨k,k2,k3,k4,k5,k6,k7⟩ | ⟨k,k2,k3,k4,k5,k6⟩
 all_goals (first | (rw [h1] at h; cases h; done) | (rw [k1] at k; cases k; done) | skip)
 all_goals (rw [h3,k3]; simp; omega)
theorem zqq2 {x y:Nat} (hx:W64 x) (hy:W64 y) (h:isNaNB x = true):lessB x y = false:=by
 unfold lessB;have:=zqtf hy;unfold keyI at *;rw [if_pos h];simp; omega
theorem zqq3 {x y:Nat} (hx:W64 x) (hy:W64 y) (h:isNaNB x = false) (k:isNaNB y = true):lessB x y = true:=by
 unfold lessB;rcases zqbj hx with ⟨h1,h2⟩ | ⟨h1,h2,h3,h4,h5,h6,h7⟩ | ⟨h1,h2,h3,h4,h5,h6⟩ <;> rcases zqbj hy with ⟨k1,k2⟩ | ⟨k1,k2,k3,k4,k5,k6,k7⟩ | ⟨k1,k2,k3,k4,k5,k6⟩
 all_goals (first | (rw [h1] at h; cases h; done) | (rw [k1] at k; cases k; done) | skip)
 all_goals (simp; omega)
theorem zqwt {x y:Nat} (hx:W64 x) (hy:W64 y) (h1:isNaNB x = false) (k1:isNaNB y = false):lessB x y = ((FloatKind.f64.format.order x y == some .lt) || ((FloatKind.f64.format.order x y == some .eq) && (belowB x && !belowB y))):=by
 rw [zqfd (zqal hx h1) (zqal hy k1),zqjj (zqal hx h1) (zqal hy k1)];unfold lessB;rcases zqbj hx with ⟨h,h2⟩ | ⟨h,h2,h3,h4,h5,h6,h7⟩ | ⟨h,h2,h3,h4,h5,h6⟩ <;> rcases zqbj hy with ⟨k,k2⟩ | ⟨k,k2,k3,k4,k5,k6,k7⟩ | ⟨k,k2,k3,k4,k5,k6⟩
 all_goals (first | (rw [h1] at h; cases h; done) | (rw [k1] at k; cases k; done) | skip)
 all_goals (rw [h3,k3,Bool.eq_iff_iff]; simp; omega)
theorem zqyq (x y:Nat) (h:isNaNB x = true ∨ isNaNB y = true):(kindI x == kindI y) = (isNaNB x && isNaNB y):=by
 unfold kindI
 revert h
 generalize isNaNB x = a;generalize isNaNB y = b;generalize isInfB x = c;generalize isInfB y = d;generalize isZeroB x = e;generalize isZeroB y = f;intro h;cases a <;> cases b <;> cases c <;> cases d <;> cases e <;> cases f <;> first | rfl | (simp at h)
set_option maxHeartbeats 1000000 in
theorem zqlo (x y:Nat) (w:World) (hx:W64 x) (hy:W64 y) :
  Calls Tryz.prog 44 #[.float .f64 x,.float .f64 y] w fun e w' => e = .returned (.bool (sameB x y)) ∧ Drawn w w':=by
 have hA:=zh (fun w => zqex x w hx)
 have hB:=zh (fun w => zqex y w hy)
 have hC:=zh (fun w => zqdp x w hx)
 have hD:=zh (fun w => zqdp y w hy)
 have kx:=zqd6 x;have ky:=zqd6 y
 by_cases h:isNaNB x = true ∨ isNaNB y = true
 ·rw [zqxj hx hy h];have hk:=zqyq x y h;generalize isNaNB x = a at *;generalize isNaNB y = b at *;generalize kindI x = p at *;generalize kindI y = q at *;clear hC hD;cases a <;> cases b <;> simp at h
  all_goals
   clear h;go_enter Tryz.func44,Tryz.ntmps44;go_wp2_with (first | ((with_reducible refine (hA.out _).mono ?_); rintro e w' ⟨rfl,n,rfl⟩) | ((with_reducible refine (hB.out _).mono ?_); rintro e w' ⟨rfl,n,rfl⟩))
   go_ret;exact ⟨zqca (by simp),by repeat (first | exact Drawn.refl _ | apply Drawn.next)⟩
 ·have h1:isNaNB x = false:=by cases e:isNaNB x with | false => rfl | true => exact absurd (.inl e) h
  have h2:isNaNB y = false:=by cases e:isNaNB y with | false => rfl | true => exact absurd (.inr e) h
  rw [zqxk hx hy h1 h2];rw [h1] at kx;rw [h2] at ky;clear h1 h2 h;generalize kindI x = p at *;generalize kindI y = q at *;generalize belowB x = a at *;generalize belowB y = b at *;generalize hE:(FloatKind.f64.format.order x y == some .eq) = l at *;cases l
  all_goals
   go_enter Tryz.func44,Tryz.ntmps44;go_wp2_with (first | ((with_reducible refine (hA.out _).mono ?_); rintro e w' ⟨rfl,n,rfl⟩) | ((with_reducible refine (hB.out _).mono ?_); rintro e w' ⟨rfl,n,rfl⟩) | ((with_reducible refine (hC.out _).mono ?_); rintro e w' ⟨rfl,rfl⟩) | ((with_reducible refine (hD.out _).mono ?_); rintro e w' ⟨rfl,rfl⟩))
   go_ret;exact ⟨zqca (by simp),by repeat (first | exact Drawn.refl _ | apply Drawn.next)⟩
set_option maxHeartbeats 1000000 in
theorem zqgt (x y:Nat) (w:World) (hx:W64 x) (hy:W64 y) :
  Calls Tryz.prog 68 #[.float .f64 x,.float .f64 y] w fun e w' => e = .returned (.bool (lessB x y)) ∧ Drawn w w':=by
 have hA:=zh (fun w => zqex x w hx)
 have hB:=zh (fun w => zqex y w hy)
 have hC:=zh (fun w => zqdp x w hx)
 have hD:=zh (fun w => zqdp y w hy)
 have kx:=zqd6 x;have ky:=zqd6 y;have hz:(isNaNB x = true ∧ lessB x y = false) ∨ (isNaNB x = false ∧ isNaNB y = true ∧ lessB x y = true) ∨ (isNaNB x = false ∧ isNaNB y = false):=by
  cases e:isNaNB x with
  | true => exact .inl ⟨rfl,zqq2 hx hy e⟩
  | false =>
   cases e2:isNaNB y with
   | true => exact .inr (.inl ⟨rfl,rfl,zqq3 hx hy e e2⟩)
   | false => exact .inr (.inr ⟨rfl,rfl⟩)
 rcases hz with ⟨h1,hl⟩ | ⟨h1,h2,hl⟩ | ⟨h1,h2⟩
 ·rw [hl];rw [h1] at kx;have kx2:(kindI x != 3) = false:=zqdb kx;generalize kindI x = p at *;generalize kindI y = q at *;clear hC hD h1 hl ky;go_enter Tryz.func68,Tryz.ntmps68;go_wp2_with (first | ((with_reducible refine (hA.out _).mono ?_); rintro e w' ⟨rfl,n,rfl⟩) | ((with_reducible refine (hB.out _).mono ?_); rintro e w' ⟨rfl,n,rfl⟩))
  go_ret;exact ⟨rfl,by repeat (first | exact Drawn.refl _ | apply Drawn.next)⟩
 ·rw [hl];rw [h1] at kx;rw [h2] at ky;have kx2:(kindI x != 3) = true:=zqdb kx;generalize kindI x = p at *;generalize kindI y = q at *;clear hC hD h1 h2 hl;go_enter Tryz.func68,Tryz.ntmps68;go_wp2_with (first | ((with_reducible refine (hA.out _).mono ?_); rintro e w' ⟨rfl,n,rfl⟩) | ((with_reducible refine (hB.out _).mono ?_); rintro e w' ⟨rfl,n,rfl⟩))
  go_ret;exact ⟨rfl,by repeat (first | exact Drawn.refl _ | apply Drawn.next)⟩
 ·rw [zqwt hx hy h1 h2];rw [h1] at kx;rw [h2] at ky;clear h1 h2;generalize kindI x = p at *;generalize kindI y = q at *;generalize belowB x = a at *;generalize belowB y = b at *;generalize hE:(FloatKind.f64.format.order x y == some .eq) = l at *;generalize hL:(FloatKind.f64.format.order x y == some .lt) = m at *;cases l <;> cases m <;> cases a
  all_goals
   go_enter Tryz.func68,Tryz.ntmps68;go_wp2_with (first | ((with_reducible refine (hA.out _).mono ?_); rintro e w' ⟨rfl,n,rfl⟩) | ((with_reducible refine (hB.out _).mono ?_); rintro e w' ⟨rfl,n,rfl⟩) | ((with_reducible refine (hC.out _).mono ?_); rintro e w' ⟨rfl,rfl⟩) | ((with_reducible refine (hD.out _).mono ?_); rintro e w' ⟨rfl,rfl⟩))
   go_ret;exact ⟨zqca (by simp),by repeat (first | exact Drawn.refl _ | apply Drawn.next)⟩
theorem zqrj (x y:Nat) (w:World) (hx:W64 x) (hy:W64 y) :
  Calls Tryz.prog 82 #[.float .f64 x,.float .f64 y] w fun e w' => e = .returned (.float .f64 (if lessB y x then y else x)) ∧ Drawn w w':=by
 have hA:=zh (zqgt y x w hy hx);generalize lessB y x = l at *;cases l
 all_goals
  go_enter Tryz.func82,Tryz.ntmps82;go_wp2_with fail;refine (hA.out).mono ?_; rintro e w' ⟨rfl,hw⟩;go_wp2_with fail;go_ret;exact ⟨rfl,hw⟩
theorem zqun (x y:Nat) (w:World) (hx:W64 x) (hy:W64 y) :
  Calls Tryz.prog 83 #[.float .f64 x,.float .f64 y] w fun e w' => e = .returned (.float .f64 (if lessB x y then y else x)) ∧ Drawn w w':=by
 have hA:=zh (zqgt x y w hx hy);generalize lessB x y = l at *;cases l
 all_goals
  go_enter Tryz.func83,Tryz.ntmps83;go_wp2_with fail;refine (hA.out).mono ?_; rintro e w' ⟨rfl,hw⟩;go_wp2_with fail;go_ret;exact ⟨rfl,hw⟩
end Go.Proofs.YtmnbljijnbhghaaGreatDoor
