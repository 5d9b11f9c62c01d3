/- Contracts that the law leans on: Nate. -/
import Derived.Shelf.Spec.TrailingZeros
import Derived.Laws.Bits64b
import Derived.Lib.BitFns
import Derived.Lib.Small
import Derived.Lib.Strings
import Derived.Lib.Slices
import Derived.Lib.Walk
import Derived.Deep.QuietTactic
import Derived.BigQuiet
import Derived.Test.YtmnbljijnbhghaaGreatDoorPt02
import Derived.Test.YtmnbljijnbhghaaGreatDoorPt04
namespace Go.Proofs.YtmnbljijnbhghaaGreatDoor
set_option maxRecDepth 100000
open Go.RowKit
set_option linter.unusedVariables false
theorem zqc7 (a:Nat) (ha:a < 4294967296):(BitVec.ofInt 32 (a:Int)).toNat = a:=by
 rw [BitVec.ofInt_natCast,BitVec.toNat_ofNat]; exact Nat.mod_eq_of_lt (by omega)
theorem zqcm (a b:Nat) (ha:a < 4294967296) (hb:b < 4294967296):bits .or .u32 (a:Int) (b:Int) = ((a ||| b:Nat):Int):=by
 have hx:a ||| b < 2 ^ 32:=Nat.or_lt_two_pow (by omega) (by omega)
 show IntKind.u32.wrap ((BitVec.ofInt 32 (a:Int) ||| BitVec.ofInt 32 (b:Int)).toNat:Int) = _
 rw [BitVec.toNat_or,zqc7 a ha,zqc7 b hb,wrap_u32'];omega
theorem zqb8 (a b:Nat) (ha:a < 4294967296) (hb:b < 4294967296):bits .xor .u32 (a:Int) (b:Int) = ((a ^^^ b:Nat):Int):=by
 have hx:a ^^^ b < 2 ^ 32:=Nat.xor_lt_two_pow (by omega) (by omega)
 show IntKind.u32.wrap ((BitVec.ofInt 32 (a:Int) ^^^ BitVec.ofInt 32 (b:Int)).toNat:Int) = _
 rw [BitVec.toNat_xor,zqc7 a ha,zqc7 b hb,wrap_u32'];omega
theorem zqg9 (v:Nat) (h:v < 4294967296):v / 2147483648 = (v.testBit 31).toNat:=by
 rw [Nat.testBit_eq_decide_div_mod_eq];have:v / 2 ^ 31 < 2:=by omega
 by_cases e:v / 2 ^ 31 % 2 = 1
 ·simp [e]; omega
 ·simp [e]; omega
theorem zqp8 (X Y D:Nat) (c:Int) (hX:X < 4294967296) (hY:Y < 4294967296) (hD:(D:Int) = ((X:Int) - Y - c) % 4294967296) (c0:0 ≤ c) (c1:c ≤ 1) :
  ((((4294967295 ^^^ X) &&& Y ||| (4294967295 ^^^ (X ^^^ Y)) &&& D:Nat)):Int) / 2147483648 = -(((X:Int) - Y - c) / 4294967296):=by
 have hlt:((4294967295 ^^^ X) &&& Y ||| (4294967295 ^^^ (X ^^^ Y)) &&& D) < 4294967296 :=
  Nat.or_lt_two_pow (n:=32) (Nat.and_lt_two_pow _ hY) (Nat.and_lt_two_pow _ (by omega))
 have h:=zqg9 _ hlt;have hm:Nat.testBit 4294967295 31 = true:=by decide
 rw [Nat.testBit_or,Nat.testBit_and,Nat.testBit_and,Nat.testBit_xor,Nat.testBit_xor,Nat.testBit_xor,hm] at h;have hx:=zqg9 X hX;have hy:=zqg9 Y hY;have hd:=zqg9 D (by omega)
 generalize (4294967295 ^^^ X) &&& Y ||| (4294967295 ^^^ (X ^^^ Y)) &&& D = E at *
 cases ex:X.testBit 31 <;> cases ey:Y.testBit 31 <;> cases ed:D.testBit 31 <;> simp [ex,ey,ed] at h hx hy hd <;> omega
theorem zqrx (x y c:Int) (x0:0 ≤ x) (x1:x ≤ 4294967295) (y0:0 ≤ y) (y1:y ≤ 4294967295) (c0:0 ≤ c) (c1:c ≤ 1) :
  bits .or .u32 (bits .and .u32 (bits .xor .u32 IntKind.u32.max x) y) (bits .and .u32 (bits .xor .u32 IntKind.u32.max (bits .xor .u32 x y)) ((x - y - c) % 4294967296)) / 2147483648 = -((x - y - c) / 4294967296):=by
 obtain ⟨X,rfl⟩:=Int.eq_ofNat_of_zero_le x0;obtain ⟨Y,rfl⟩:=Int.eq_ofNat_of_zero_le y0;obtain ⟨D,hD⟩:=Int.eq_ofNat_of_zero_le (a:=((X:Int) - Y - c) % 4294967296) (by omega)
 have hm:IntKind.u32.max = ((4294967295:Nat):Int):=rfl;have hX:X < 4294967296:=by omega
 have hY:Y < 4294967296:=by omega
 have k1:4294967295 ^^^ X < 4294967296:=Nat.xor_lt_two_pow (n:=32) (by omega) hX
 have k2:X ^^^ Y < 4294967296:=Nat.xor_lt_two_pow (n:=32) hX hY;have k3:4294967295 ^^^ (X ^^^ Y) < 4294967296:=Nat.xor_lt_two_pow (n:=32) (by omega) k2
 have k4:(4294967295 ^^^ X) &&& Y < 4294967296:=Nat.and_lt_two_pow (n:=32) _ hY;have k5:(4294967295 ^^^ (X ^^^ Y)) &&& D < 4294967296:=Nat.and_lt_two_pow (n:=32) _ (by omega)
 rw [hD,hm,zqb8 _ _ (by omega) hX,bits_and_u32_nat _ _ k1 hY,zqb8 _ _ hX hY,zqb8 _ _ (by omega) k2,bits_and_u32_nat _ _ k3 (by omega),zqcm _ _ k4 k5]
 exact zqp8 X Y D c hX hY hD.symm c0 c1
theorem zq0d (a b k:Nat) (hb:b < 2 ^ k) (h:2 ^ k * a + b < 18446744073709551616):bits .or .u64 ((2 ^ k * a:Nat):Int) (b:Int) = ((2 ^ k * a + b:Nat):Int):=by
 rw [bits_or_u64_nat _ _ (by omega) (by omega),Nat.two_pow_add_eq_or_of_lt hb]
theorem zqw3 (a b k:Nat) (hb:b < 2 ^ k) (h:2 ^ k * a + b < 4294967296):bits .or .u32 ((2 ^ k * a:Nat):Int) (b:Int) = ((2 ^ k * a + b:Nat):Int):=by
 rw [zqcm _ _ (by omega) (by omega),Nat.two_pow_add_eq_or_of_lt hb]
theorem zqlc (a b k:Nat) (hb:b < 2 ^ k) (h:2 ^ k * a + b < 18446744073709551616):bits .or .u64 (b:Int) ((2 ^ k * a:Nat):Int) = ((2 ^ k * a + b:Nat):Int):=by
 rw [bits_or_u64_nat _ _ (by omega) (by omega),Nat.or_comm,Nat.two_pow_add_eq_or_of_lt hb]
theorem zqty (a b k:Nat) (hb:b < 2 ^ k) (h:2 ^ k * a + b < 4294967296):bits .or .u32 (b:Int) ((2 ^ k * a:Nat):Int) = ((2 ^ k * a + b:Nat):Int):=by
 rw [zqcm _ _ (by omega) (by omega),Nat.or_comm,Nat.two_pow_add_eq_or_of_lt hb]
set_option maxHeartbeats 400000 in
theorem zqeh (x y c:Int) (x0:0 ≤ x) (x1:x ≤ 4294967295) (y0:0 ≤ y) (y1:y ≤ 4294967295) (c0:0 ≤ c) (c1:c ≤ 4294967295) (w:World) :
  Calls Tryz.prog 185 #[.int .u32 x,.int .u32 y,.int .u32 c] w fun e w' => e = .returned (.tuple #[.int .u32 ((x + y + c) % 4294967296),.int .u32 ((x + y + c) / 4294967296)]) ∧ w = w':=by
 go_enter Tryz.func185,Tryz.ntmps185;go_wp2;go_ret2;exact ⟨zquk rfl (by omega),rfl⟩
set_option maxHeartbeats 400000 in
theorem zqlv (x y c:Int) (x0:0 ≤ x) (x1:x ≤ 4294967295) (y0:0 ≤ y) (y1:y ≤ 4294967295) (c0:0 ≤ c) (c1:c ≤ 1) (w:World) :
  Calls Tryz.prog 212 #[.int .u32 x,.int .u32 y,.int .u32 c] w fun e w' => e = .returned (.tuple #[.int .u32 ((x - y - c) % 4294967296),.int .u32 (-((x - y - c) / 4294967296))]) ∧ w = w':=by
 go_enter Tryz.func212,Tryz.ntmps212;go_wp2;go_ret2;exact ⟨zquk rfl (zqrx x y c x0 x1 y0 y1 c0 c1),rfl⟩
theorem zqjd (j:Nat) (h:j < Lib.len8tab.size):((Lib.len8tab[j].toNat:Nat):Int) = (Lib.bitLen j:Int):=by
 have hs:=Lib.len8tab_size;have e:=Lib.len8_of (j:Int) (by omega) (by omega)
 have e2:((j:Int)).toNat = j:=by omega
 rw [Lib.len8,e2,ByteArray.getElem?_lt' _ _ h] at e;simpa using e
theorem zqcv {n:Int} (h1:0 ≤ n) (h2:n ≤ 255):wrap64 n = n:=wrap64_in (by omega) (by omega)
theorem zqgg (x i:Int) (s:Nat) (h:i.toNat < Lib.len8tab.size) (hs:s ≤ 56) (e:Lib.bitLen x.toNat = s + Lib.bitLen i.toNat):wrap64 ((s:Int) + wrap64 ((Lib.len8tab[i.toNat].toNat:Nat):Int)) = (Lib.bitLen x.toNat:Int):=by
 have h8:=Lib.bitLen_le8 ⟨i.toNat,by have:=Lib.len8tab_size; omega⟩
 simp only at h8;rw [zqjd _ h,zqcv (n:=(Lib.bitLen i.toNat:Int)) (by omega) (by omega),zqcv (by omega) (by omega),e]
 omega
theorem zqq1 (x:Int) (h:x.toNat < Lib.len8tab.size):wrap64 (wrap64 ((Lib.len8tab[x.toNat].toNat:Nat):Int)) = (Lib.bitLen x.toNat:Int):=by
 have h8:=Lib.bitLen_le8 ⟨x.toNat,by have:=Lib.len8tab_size; omega⟩
 simp only at h8;rw [zqjd _ h,zqcv (n:=(Lib.bitLen x.toNat:Int)) (by omega) (by omega),zqcv (by omega) (by omega)]
set_option maxHeartbeats 1000000 in
set_option maxRecDepth 100000 in
theorem zqth (x:Int) (w:World) (h0:0 ≤ x) (h1:x ≤ 4294967295) :
  Calls Tryz.prog 182 #[.int .u32 x] w fun e w' => e = .returned (.int .i64 (Lib.bitLen x.toNat)) ∧ w = w':=by
 have hsz:=Lib.len8tab_size;go_enter Tryz.func182,Tryz.ntmps182;go_wp2
 all_goals (go_ret; refine ⟨zqar ?_,rfl⟩)
 ·exact zqgg x _ 24 _ (by decide) ((Lib.bitLen_shift24 x.toNat (by omega) (by omega)).trans (by congr 2; omega))
 ·exact zqgg x _ 16 _ (by decide) ((Lib.bitLen_shift16 x.toNat (by omega) (by omega)).trans (by congr 2; omega))
 ·exact zqgg x _ 8 _ (by decide) ((Lib.bitLen_shift8 x.toNat (by omega) (by omega)).trans (by congr 2; omega))
 ·exact zqq1 x _
set_option maxRecDepth 100000
open Go.RowKit
set_option linter.unusedVariables false
theorem zqhr {a b:List Int} (ha:Wd a) (hb:Wd b) (ht:Tidy b) (h:a.length < b.length):wv a < wv b:=by
 have h1:=ht.wsize hb (by intro e; subst e; simp at h)
 have h2:=(zqas ha).2;have h3:=zqgp (m:=a.length) (n:=b.length - 1) (by omega)
 omega
theorem zqlq (b:Bool) (w:World):Calls Tryz.prog 216 #[.bool b] w fun e w' => e = .returned (.int .i64 (bif b then -1 else 1)) ∧ w' = w :=
 (zqil b w).mono fun _ _ h => ⟨h.1,h.2.symm⟩
theorem zqhp {P:Program} {f:FuncId} {args:Array Value} {w:World} {k n:Nat} {v:Value} (h:Calls P f args (w.drewN (k + n)) fun e w' => e = .returned v ∧ w' = w.drewN (k + n)) :
  Calls P f args (w.drewN (k + n)) fun e w' => e = .returned v ∧ ∃ m,w' = w.drewN (k + m):=h.mono fun _ _ q => ⟨q.1,n,q.2⟩
set_option maxHeartbeats 1000000 in
theorem zqpd (u v:Value) (a b:List Int) (w:World) (hu:WList w u a) (hv:WList w v b) :
  Calls Tryz.prog 211 #[u,v] w fun e w' => e = .returned (.int .i64 (cmpI (wv a) (wv b))) ∧ ∃ n,w' = w.drewN n:=by
 obtain ⟨p,c,rfl⟩:=hu.shape;obtain ⟨q,d,rfl⟩:=hv.shape;have HU:=zh hu;have HV:=zh hv;have HS:=zh (zqbh p a.length c a w hu.1 hu.2.2);have HT:=zh (zqbh q b.length d b w hv.1 hv.2.2);clear hu hv;go_enter Tryz.func211,Tryz.ntmps211;go_wp2_with fail;refine (HS.out).mono ?_; rintro e w' ⟨u1,n,rfl,hc,rfl⟩;go_wp2_with fail;refine (HT.out).mono ?_; rintro e w' ⟨v1,m,rfl,hd,rfl⟩;obtain ⟨hx,ex,tx⟩:=hc.wlist HU.out;obtain ⟨hy,ey,ty⟩:=hd.wlist HV.out;generalize a.take n = x at *;generalize b.take m = y at *;have EX:=zh (And.intro ex ey);have TX:=zh (And.intro tx ty);clear HU HV HS HT hc hd ex ey tx ty;obtain ⟨p1,c1,rfl⟩:=hx.shape;obtain ⟨q1,d1,rfl⟩:=hy.shape;have HX:=zh hx;have HY:=zh hy;have lx:x.length ≤ 1099511627776:=hx.2.2;have ly:y.length ≤ 1099511627776:=hy.2.2;clear hx hy;rcases Nat.lt_trichotomy x.length y.length with hlt | heq | hgt
 ·have hr:=zh (zqdu (zqhr HX.out.2.1 HY.out.2.1 TX.out.2 hlt));rw [EX.out.1,EX.out.2] at hr;have hne:¬ x.length = y.length:=by omega
  go_wp2_with (go_at_call 216; refine (zqil _ _).mono ?_; rintro e w' ⟨rfl,rfl⟩);go_ret;exact ⟨zqar (by rw [hr.out]),0,rfl⟩
 ·obtain ⟨L,hL⟩:∃ L,x.length = L:=⟨_,rfl⟩
  have hL2:y.length = L:=by omega
  have HL:=zh (And.intro hL hL2);rw [hL] at HX;rw [hL2] at HY;rw [hL,hL2];clear heq hL2 ly;rw [hL] at lx;clear hL;go_wp2_with fail;go_loopw [24] (fun i wr => ∃ (k m nd:Nat),Hid (L = k + m) ∧ k ≤ L ∧ i = .int .i64 k ∧ Hid (∀ j,m ≤ j → x.getD j 0 = y.getD j 0) ∧ wr = w.drewN nd) (fun i _ => L - (intOf i).toNat)
  case atStart => exact ⟨0,L,0,zh (by omega),by omega,rfl,zh (zqlp (by have:=HL.out; omega) (by have:=HL.out; omega)),rfl⟩
  case round =>
   obtain ⟨k,m,nd,hm,hk,rfl,hs,rfl⟩:=hrel
   by_cases hlt:k < L
   ·obtain ⟨n,rfl⟩:∃ n,m = n + 1:=⟨m - 1,by have:=hm.out; omega⟩
    obtain ⟨b1,o1,hp1,hb1,hc1⟩:=HX.out.1.cell (i:=n) (by have:=hm.out; have:=HL.out; omega)
    obtain ⟨b2,o2,hp2,hb2,hc2⟩:=HY.out.1.cell (i:=n) (by have:=hm.out; have:=HL.out; omega)
    subst hp1 hp2;have hi0:(0:Int) ≤ L - 1 - k:=by omega
    have hi1:(L:Int) - 1 - k < L:=by omega
    have hiN:((L:Int) - 1 - k).toNat = n:=by have:=hm.out; omega
    have hC:=zh (fun (s t:Int) (hx:x.getD n 0 = s) (hy:y.getD n 0 = t) (hlt:s < t) => zqfg HX.out.2.1 HY.out.2.1 (n:=n) hs.out (by rw [hx,hy]; exact hlt))
    have hD:=zh (fun (s t:Int) (hx:x.getD n 0 = s) (hy:y.getD n 0 = t) (hlt:t < s) => zqfg HY.out.2.1 HX.out.2.1 (n:=n) (fun i hi => (hs.out i hi).symm) (by rw [hx,hy]; exact hlt))
    have hE:=zh (fun (s t:Int) (hx:x.getD n 0 = s) (hy:y.getD n 0 = t) (he:s = t) => zqgu hs.out (hx.trans (he.trans hy.symm)))
    rw [EX.out.1,EX.out.2] at hC;rw [EX.out.1,EX.out.2] at hD;generalize x.getD n 0 = s at *;generalize y.getD n 0 = t at *;have hC2:=zh (hC.out s t rfl rfl);have hD2:=zh (hD.out s t rfl rfl);have hE2:=zh (hE.out s t rfl rfl);clear hC hD hE hs HX HY;rcases Int.lt_trichotomy s t with h | rfl | h
    ·have hne:¬ s = t:=by omega
     go_wp2_with fail;go_quiet (fail);go_wp2_with fail;go_quiet ((go_at_call 216; exact zqhp (zqlq _ _)));go_wp2_with fail;go_ret;exact ⟨zqar (by simp [zqdu (hC2.out h)]),by simp only [World.drewN_drewN]; exact ⟨_,rfl⟩⟩
    ·go_wp2_with fail;go_quiet (fail);go_wp2_with fail;go_roundw
     case rel => exact ⟨k + 1,n,_,zh (by have:=hm.out; omega),by omega,by go_num,zh (hE2.out (by trivial)),rfl⟩
     case measure => simp [intOf]; omega
    ·have hne:¬ s = t:=by omega
     go_wp2_with fail;go_quiet (fail);go_wp2_with fail;go_quiet ((go_at_call 216; exact zqhp (zqlq _ _)));go_wp2_with fail;go_ret;exact ⟨zqar (by rw [zqg1 (hD2.out h),decide_eq_false (by omega)]; rfl),by simp only [World.drewN_drewN]; exact ⟨_,rfl⟩⟩
   ·have hz:=zh (zqdl (fun j => hs.out j (by have:=hm.out; omega)))
    rw [EX.out.1,EX.out.2] at hz;clear hs;go_wp2_with fail;go_ret;exact ⟨zqar (zqpb hz.out).symm,_,rfl⟩
 ·have hr:=zh (zqg1 (zqhr HY.out.2.1 HX.out.2.1 TX.out.1 hgt));rw [EX.out.1,EX.out.2] at hr;have hne:¬ x.length = y.length:=by omega
  go_wp2_with (go_at_call 216; refine (zqil _ _).mono ?_; rintro e w' ⟨rfl,rfl⟩);go_ret;exact ⟨zqar (by rw [hr.out,decide_eq_false (by omega)]; rfl),0,rfl⟩
def bitsZ (z:Int):Nat:=if z = 0 then 0 else Nat.log2 z.toNat + 1
theorem zqf4:∀ f x:Nat,0 < x → x < 2 ^ f → Lib.bitLenAux f x = Nat.log2 x + 1
 | 0,x,h0,h => by simp at h; omega
 | f + 1,x,h0,h => by
  have hx:x ≠ 0:=by omega
  simp only [Lib.bitLenAux,if_neg hx]
  by_cases h1:x = 1
  ·subst h1;have:Lib.bitLenAux f (1 / 2) = 0:=by cases f <;> simp [Lib.bitLenAux]
   rw [this]; decide
  ·rw [zqf4 f (x / 2) (by omega) (by rw [Nat.pow_succ] at h; omega),Nat.log2_def x,if_pos (by omega)]; omega
theorem zqp5 (s:Nat) (h0:0 < s) (h:s < 18446744073709551616):Lib.bitLen s = Nat.log2 s + 1:=zqf4 64 s h0 h
theorem zqoe {x:List Int} (hd:Wd x) {n:Nat} (hl:x.length = n + 1) (h0:0 < x.getD n 0):(n:Int) * 32 + (Lib.bitLen (x.getD n 0).toNat:Int) = bitsZ (wv x):=by
 have h1:=zqp5 (x.getD n 0).toNat (by omega) (by have:=(hd.getD n).2; omega)
 have h2:wv x = wvN x n + x.getD n 0 * 4294967296 ^ n:=by rw [wv,hl]; rfl
 have h3:=zqbk hd n;have hp:=q_pos n;have h4:0 < x.getD n 0 * 4294967296 ^ n:=Int.mul_pos h0 hp;have hz:wv x ≠ 0:=by omega
 rw [h1,bitsZ,if_neg hz];have hb:=Nat.log2_lt (n:=(x.getD n 0).toNat) (k:=Nat.log2 (x.getD n 0).toNat + 1) (by omega)
 have ha:=Nat.log2_self_le (n:=(x.getD n 0).toNat) (by omega)
 have hb:=hb.1 (by omega)
 generalize hs:x.getD n 0 = s at *;obtain ⟨S,rfl⟩:=Int.eq_ofNat_of_zero_le (Int.le_of_lt h0);obtain ⟨R,hR⟩:=Int.eq_ofNat_of_zero_le h3.1;rw [hR] at h2 h3;simp only [Int.toNat_natCast] at *;have hw:(wv x).toNat = R + S * 2 ^ (32 * n):=by
  have e:(4294967296:Int) ^ n = ((2 ^ (32 * n):Nat):Int):=by rw [Nat.pow_mul]; simp
  rw [h2,e,← Int.natCast_mul,← Int.natCast_add,Int.toNat_natCast]
 have hR2:R < 2 ^ (32 * n):=by
  have e:(4294967296:Int) ^ n = ((2 ^ (32 * n):Nat):Int):=by rw [Nat.pow_mul]; simp
  rw [e] at h3; omega
 have key:Nat.log2 (R + S * 2 ^ (32 * n)) = 32 * n + Nat.log2 S:=by
  have hS0:S ≠ 0:=by omega
  have hP:0 < 2 ^ (32 * n):=Nat.two_pow_pos _;have hne:R + S * 2 ^ (32 * n) ≠ 0:=by
   have:0 < S * 2 ^ (32 * n):=Nat.mul_pos (by omega) hP
   omega
  rw [Nat.log2_eq_iff hne,Nat.pow_add,Nat.pow_add,Nat.pow_add,Nat.pow_one];rw [Nat.pow_succ] at hb;have k1:2 ^ (32 * n) * 2 ^ Nat.log2 S ≤ 2 ^ (32 * n) * S:=Nat.mul_le_mul_left _ ha;have k2:2 ^ (32 * n) * (S + 1) ≤ 2 ^ (32 * n) * (2 ^ Nat.log2 S * 2):=Nat.mul_le_mul_left _ (by omega)
  rw [Nat.mul_comm S,Nat.mul_assoc];rw [Nat.mul_add] at k2;omega
 rw [hw,key]; omega
set_option maxHeartbeats 1000000 in
theorem zqml (u:Value) (a:List Int) (w:World) (hu:WList w u a) :
  Calls Tryz.prog 190 #[u] w fun e w' => e = .returned (.int .i64 (bitsZ (wv a))) ∧ w = w':=by
 obtain ⟨p,c,rfl⟩:=hu.shape;have HU:=zh hu;have HS:=zh (zqbh p a.length c a w hu.1 hu.2.2);clear hu;go_enter Tryz.func190,Tryz.ntmps190;go_wp2_with fail;refine (HS.out).mono ?_; rintro e w' ⟨u1,n,rfl,hc,rfl⟩;obtain ⟨hx,ex,tx⟩:=hc.wlist HU.out;generalize a.take n = x at *;have EX:=zh ex;have TX:=zh tx;clear HU HS hc ex tx;obtain ⟨p1,c1,rfl⟩:=hx.shape;have HX:=zh hx;have lx:x.length ≤ 1099511627776:=hx.2.2;clear hx
 by_cases h0:x.length = 0
 ·have hz:=zh ((TX.out.wzero HX.out.2.1).2 (List.length_eq_zero_iff.1 h0));rw [EX.out] at hz;go_wp2_with fail;go_ret;exact ⟨zqar (by rw [hz.out]; rfl),rfl⟩
 ·obtain ⟨n,hn⟩:∃ n,x.length = n + 1:=⟨x.length - 1,by omega⟩
  have hp:0 < x.getD n 0:=by
   have h1:=TX.out.resolve_left (by intro e; subst e; simp at hn)
   rw [hn,Nat.add_sub_cancel] at h1;have h2:=HX.out.2.1.getD n;omega
  have hq:=(HX.out.2.1.getD n).2;have hB:=zh (zqoe HX.out.2.1 hn hp);rw [EX.out] at hB;obtain ⟨b1,o1,hp1,hb1,hc1⟩:=HX.out.1.cell (i:=n) (by omega)
  subst hp1;rw [hn] at HX lx h0;rw [hn];clear hn h0 hb1;generalize x.getD n 0 = s at *;have hL:=zh (zqth s w (by omega) hq)
  have hle:Lib.bitLen s.toNat ≤ 32:=Lib.bitLen_le _ 32 (by omega) (by omega)
  generalize Lib.bitLen s.toNat = l at *;go_wp2_with fail;refine (hL.out).mono ?_; rintro e w' ⟨rfl,rfl⟩;go_wp2_with fail;go_ret;exact ⟨zqar hB.out,rfl⟩
set_option maxRecDepth 100000
open Go.RowKit
set_option linter.unusedVariables false
theorem zqq9 (x y:Int) (w:World) (B:Nat) (hB:B ≤ w.heap.size):WRow (w.alloc (.cells #[.int .u32 x,.int .u32 y] 27)) B w.heap.size 2 [x,y] :=
 ⟨by simp,.inr ⟨w.heap.size,2,#[.int .u32 x,.int .u32 y],rfl,hB,heap_alloc_new w _,by simp,by unfold maxLen; omega,by simp,by simp⟩⟩
set_option maxHeartbeats 1000000 in
theorem zqpo (x:Int) (h0:0 ≤ x) (h1:x ≤ 18446744073709551615) (w:World) :
  Calls Tryz.prog 143 #[.int .u64 x] w (Fresh w x 2):=by
 have hR:=zqq9 (x % 4294967296) (x / 4294967296) w w.heap.size (Nat.le_refl _);have hd:Wd [x % 4294967296,x / 4294967296]:=by
  intro y hy; simp at hy; omega
 have hz:wv [x % 4294967296,x / 4294967296] = x:=by simp [wv,wvN]; omega
 have HL:=zh (hR.wlist hd (by simp))
 have HS:=zh (zqbh _ _ 2 _ _ HL.out.1 (by simp))
 have HR:=zh hR;have HZ:=zh hz;clear hR hd hz;go_enter Tryz.func143,Tryz.ntmps143;go_wp2_with fail;refine (HS.out).mono ?_; rintro e w' ⟨u1,n,rfl,hc,rfl⟩;have hw:=hc.wlist HL.out;have ho:=hc.own HR.out;go_wp2_with fail;go_ret;exact ⟨_,_,rfl,ho,hw.1.2.1,hw.2.2,hw.2.1.trans HZ.out,by rw [List.length_take]; simp; omega,zqab w _⟩
end Go.Proofs.YtmnbljijnbhghaaGreatDoor
