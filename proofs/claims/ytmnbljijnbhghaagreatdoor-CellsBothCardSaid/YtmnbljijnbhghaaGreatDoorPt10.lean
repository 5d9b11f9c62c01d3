/- Contracts that the law leans on: Floi Natf Flok Natg. -/
import Derived.Test.YtmnbljijnbhghaaGreatDoorPt02
import Derived.Test.YtmnbljijnbhghaaGreatDoorPt05
import Derived.Test.YtmnbljijnbhghaaGreatDoorPt06
namespace Go.Proofs.YtmnbljijnbhghaaGreatDoor
set_option maxRecDepth 100000
open Go.RowKit
set_option linter.unusedVariables false
theorem zqyu {x:Nat} (hx:W64 x) (hn:isNaNB x = false) (hz:isZeroB x = false):(FloatKind.f64.format.order x 0 == some .lt) = negB x:=by
 rw [zqjj (zqal hx hn) (y:=0) ⟨by decide,by decide⟩,zqbg (x:=0) (by omega)]
 unfold isZeroB at hz;unfold W64 at hx;unfold negB skey;simp only [decide_eq_false_iff_not] at hz;rw [decide_eq_decide]
 by_cases k:x < 9223372036854775808
 ·rw [if_pos k]; omega
 ·rw [if_neg k]; omega
theorem zqd7 {x:Nat} (hx:W64 x) (h:kindI x = 1):isNaNB x = false ∧ isInfB x = false ∧ isZeroB x = false ∧ 0 < x % 9223372036854775808 ∧ x % 9223372036854775808 < 9218868437227405312:=by
 unfold kindI at h;cases h1:isNaNB x with
 | true => rw [h1] at h; simp at h
 | false =>
  cases h2:isInfB x with
  | true => rw [h1,h2] at h; simp at h
  | false =>
   cases h3:isZeroB x with
   | true => rw [h1,h2,h3] at h; simp at h
   | false =>
    refine ⟨rfl,rfl,rfl,?_⟩;unfold isNaNB at h1; unfold isInfB at h2; unfold isZeroB at h3;simp only [decide_eq_false_iff_not] at h1 h2 h3;omega
theorem fvc {c:Nat} {q:Int} (h:Canon c q) (hq:q ≤ 971):FV false (rungOf c q) c q:=FV.canon h hq false
theorem zqig {c:Nat} {q:Int} (h:Canon c q) (hq:q ≤ 971):W64 (rungOf c q) ∧ notNan (rungOf c q):=by
 have:=zqb1 h hq;exact ⟨by unfold W64; omega,by omega,by omega⟩
theorem zqd0 {r:Nat} (h0:0 < r) (h1:r < 9218868437227405312):∃ c q,Canon c q ∧ q ≤ 971 ∧ c ≠ 0 ∧ rungOf c q = r:=by
 obtain ⟨c,q,k1,k2,k3,-⟩:=zqfk h1;refine ⟨c,q,k1,k2,?_,k3⟩;rintro rfl;rw [zqby k1] at k3;have:rungOf 0 (-1074) = 0:=by decide
 omega
theorem zqr3 (r:Nat):Ieee.double.word false r = r:=rfl
theorem SameD.add {m c:Nat} {p q:Int} (h:SameD m p c q) (e:Int):SameD m (p + e) c (q + e):=by
 obtain ⟨k,⟨h1,h2⟩ | ⟨h1,h2⟩⟩:=h
 ·exact ⟨k,.inl ⟨by omega,h2⟩⟩
 ·exact ⟨k,.inr ⟨by omega,h2⟩⟩
theorem zqys {c:Nat} (h:c < 9007199254740992):c.log2 ≤ 52:=by
 by_cases h0:c = 0
 ·subst h0; simp
 ·have:=(Nat.log2_lt h0 (k:=53)).2 h; omega
def IsSplit (c:Nat) (q:Int) (m:Int) (e:Int):Prop:=0 < m ∧ m % 2 = 1 ∧ SameD m.toNat e c q ∧ m < 9007199254740992
theorem IsSplit.unique {c:Nat} {q m e m' e':Int} (h:IsSplit c q m e) (k:IsSplit c q m' e'):m = m' ∧ e = e':=by
 obtain ⟨h0,h1,h2,-⟩:=h;obtain ⟨k0,k1,k2,-⟩:=k;obtain ⟨a,⟨g1,g2⟩ | ⟨g1,g2⟩⟩:=h2.trans k2.symm
 ·cases a with
  | zero => simp at g1 g2; exact ⟨by omega,by omega⟩
  | succ a => rw [Nat.pow_succ,← Nat.mul_assoc] at g2; omega
 ·cases a with
  | zero => simp at g1 g2; exact ⟨by omega,by omega⟩
  | succ a => rw [Nat.pow_succ,← Nat.mul_assoc] at g2; omega
def wholeN (c:Nat) (q:Int):Nat:=c / 2 ^ (-q).toNat
theorem zqx0 (c:Nat) (q:Int):wholeN c q ≤ c:=Nat.div_le_self _ _
theorem zqvb {c:Nat} {q:Int} (hc:Canon c q) (hq:q ≤ 0):floatToIntVal .f64 (rungOf c q) .u64 = some (wholeN c q:Int):=by
 have h1:c * 2 ^ q.toNat = c:=by rw [show q.toNat = 0 by omega]; simp
 refine zqz2 hc (by omega) (zqr3 _).symm _ ?_ ?_
 ·rw [h1]; rfl
 ·have:=zqx0 c q; have:=hc.1; omega
set_option maxRecDepth 100000
open Go.RowKit
set_option linter.unusedVariables false
def SplitPost (x c:Nat) (q:Int) (w:World) (e:Ending) (w':World):Prop:=(∃ m k:Int,IsSplit c q m k ∧ e = .returned (.tuple #[.bool (negB x),.int .u64 m,.int .i64 k])) ∧ Drawn w w'
set_option maxRecDepth 100000
open Go.RowKit
set_option linter.unusedVariables false
theorem IsSplit.ge {c:Nat} {q m e:Int} (h:IsSplit c q m e):q ≤ e:=by
 obtain ⟨h0,h1,⟨a,⟨g1,g2⟩ | ⟨g1,g2⟩⟩,h3⟩:=h
 ·omega
 ·cases a with
  | zero => omega
  | succ a => rw [Nat.pow_succ,← Nat.mul_assoc] at g2; omega
theorem zqou {c:Nat} {q z e:Int} (hc:Canon c q) (hq:q ≤ 971) (h0:c ≠ 0) (hs:SameD z.toNat e c q):e ≤ 1023:=by
 have h1:=hs.log2 h0;have h2:=zqys hc.1;omega
end Go.Proofs.YtmnbljijnbhghaaGreatDoor
namespace Go.Proofs.YtmnbljijnbhghaaGreatDoor
set_option maxRecDepth 100000
open Go.RowKit
set_option linter.unusedVariables false
def Tab (w:World):Prop:=TabAt 1 Lib.deBruijn32tab w
theorem Tab.call {w w':World} (h:Tab w) (hb:Below w.heap.size w w'):Tab w':=fun j hj => cell_later hb (h j hj)
set_option maxHeartbeats 1000000 in
theorem tz32_core (x k idx:Nat) (w:World) (hx0:((x:Int) == 0) = false)
  (key:bits BinOp.and IntKind.u32 (x:Int) (-(x:Int) % 4294967296) * 125613361 % 4294967296 / 134217728 = (idx:Int))
  (hi:idx < 32) (hk:k < 32) (hcell:w.cell? ⟨1,idx,none⟩ = some (.int .u8 k)) :
  Calls Tryz.prog 196 #[.int .u32 x] w fun e w' => e = .returned (.int .i64 k) ∧ w = w':=by
 go_enter Tryz.func196,Tryz.ntmps196;go_wp2_with (simp only [key]);go_ret;exact ⟨rfl,rfl⟩
theorem zqxv (x:Nat) (hx:x < 4294967296) (hx0:x ≠ 0) (w:World) (hT:Tab w) :
  Calls Tryz.prog 196 #[.int .u32 x] w fun e w' => e = .returned (.int .i64 (Lib.ctz 32 x)) ∧ w = w':=by
 obtain ⟨hlow,hk⟩:=Lib.lowest_bit 32 x hx0 hx;obtain ⟨hi,htab⟩:=Lib.deBruijn32_at _ hk;have hcell:=hT _ hi;rw [htab] at hcell;exact tz32_core x _ _ w (by simp; omega) (tz32_key x _ hx hx0 hlow) hi hk hcell
def Halved (z:Int) (n:Nat):Prop:=(z = 0 ∧ n = 0) ∨ ∃ m:Nat,z = 2 ^ n * (2 * m + 1)
def HalvedPost (z:Int) (w:World) (e:Ending) (w':World):Prop:=∃ n:Nat,e = .returned (.int .i64 n) ∧ Halved z n ∧ w = w'
theorem zql4 {a:List Int} {k:Nat} (h:∀ j,j < k → a.getD j 0 = 0):wvN a k = 0:=by
 have:=zqe3 (a:=a) (b:=[]) (n:=k) (fun i hi => by rw [h i hi]; rfl)
 rw [this];have e:∀ n,wvN [] n = 0:=fun n => by
  induction n with
  | zero => rfl
  | succ n ih => rw [wvN,ih]; simp
 exact e k
theorem pow32 (k:Nat):(4294967296:Int) ^ k = 2 ^ (k * 32):=by
 rw [Nat.mul_comm,Int.pow_mul]; rfl
theorem zqvh (a:List Int) (k n:Nat):wvN a (k + n) = wvN a k + 4294967296 ^ k * wvN (a.drop k) n:=by
 induction n with
 | zero => simp [wvN]
 | succ n ih =>
  rw [← Nat.add_assoc,wvN,ih,wvN];have e:(a.drop k).getD n 0 = a.getD (k + n) 0:=by simp [List.getD]
  rw [e,Int.mul_add,Int.pow_add];have:a.getD (k + n) 0 * (4294967296 ^ k * 4294967296 ^ n) = 4294967296 ^ k * (a.getD (k + n) 0 * 4294967296 ^ n):=by
   rw [← Int.mul_assoc,Int.mul_comm (a.getD (k + n) 0),Int.mul_assoc]
  omega
theorem zqn8 (a:List Int) {k:Nat} (hk:k ≤ a.length):wv a = wvN a k + 4294967296 ^ k * wv (a.drop k):=by
 have h:=zqvh a k (a.length - k);rw [show k + (a.length - k) = a.length from by omega] at h
 rw [wv,h,wv,List.length_drop]
theorem Wd.drop {a:List Int} (h:Wd a) (k:Nat):Wd (a.drop k):=fun x hx => h x (List.mem_of_mem_drop hx)
theorem zqha {a:List Int} (hne:0 < a.length):wv a = a.getD 0 0 + 4294967296 * wv (a.drop 1):=by
 have h:=zqn8 a (k:=1) hne;rw [h]; simp [wvN]
theorem zqgd {a:List Int} (hd:Wd a) {k:Nat} (hk:k < a.length) (hz:∀ j,j < k → a.getD j 0 = 0) (S:Nat) (hS:a.getD k 0 = S) (h0:S ≠ 0):Halved (wv a) (k * 32 + Lib.ctz 32 S):=by
 have hS1:S < 4294967296:=by have:=(hd.getD k).2; omega
 obtain ⟨m,hm,hlt⟩:=Lib.ctzFrom_spec 32 S (by omega) hS1
 have hc:Lib.ctz 32 S = Lib.ctzFrom 32 S:=by simp [Lib.ctz,h0]
 rw [hc];generalize Lib.ctzFrom 32 S = t at *;have h1:=zqn8 a (k:=k) (by omega)
 have h2:=zqha (a:=a.drop k) (by rw [List.length_drop]; omega)
 have e:(a.drop k).getD 0 0 = (S:Int):=by rw [← hS]; simp [List.getD]
 rw [e] at h2;obtain ⟨R,hR⟩:=Int.eq_ofNat_of_zero_le (zqas ((hd.drop k).drop 1)).1;rw [hR] at h2;obtain ⟨s,hs⟩:∃ s,32 = t + s + 1:=⟨31 - t,by omega⟩
 refine .inr ⟨m + 2 ^ s * R,?_⟩;rw [h1,zql4 hz,h2,pow32,Int.pow_add,Int.mul_assoc,Int.zero_add]
 congr 1
 have e1:(4294967296:Int) = 2 ^ t * 2 ^ s * 2:=by
  rw [← Int.pow_add,← Int.pow_succ,show (t + s).succ = 32 from hs.symm]; rfl
 have e2:(S:Int) = 2 ^ t * (2 * m + 1):=by rw [hm]; simp
 have e4:((m + 2 ^ s * R:Nat):Int) = (m:Int) + 2 ^ s * (R:Int):=by simp
 rw [e2,e1,e4];simp only [Int.mul_add,Int.mul_assoc];have e5:(2:Int) ^ t * (2 * (2 ^ s * (R:Int))) = 2 ^ t * (2 ^ s * (2 * (R:Int))):=by rw [← Int.mul_assoc 2,Int.mul_comm 2 (2 ^ s),Int.mul_assoc]
 omega
set_option maxHeartbeats 1000000 in
theorem zqon (u:Value) (a:List Int) (w:World) (hu:WList w u a) (hT:Tab w) :
  Calls Tryz.prog 172 #[u] w (HalvedPost (wv a) w):=by
 obtain ⟨p,c,rfl⟩:=hu.shape;have HU:=zh hu;have HT:=zh hT;have lx:=hu.2.2;clear hu hT;go_enter Tryz.func172,Tryz.ntmps172;go_wp2_with fail;go_loop [6] (fun i => ∃ (k:Nat),k ≤ a.length ∧ i = .int .i64 k ∧ Hid (∀ j,j < k → a.getD j 0 = 0)) (fun i => a.length - (intOf i).toNat)
 case atStart => exact ⟨0,Nat.zero_le _,rfl,zh (fun j hj => by omega)⟩
 case round =>
  obtain ⟨k,hk,rfl,hz⟩:=hrel
  by_cases hlt:k < a.length
  ·obtain ⟨b1,o1,hp1,hb1,hc1⟩:=HU.out.1.cell (i:=k) hlt;subst hp1;have hd:=HU.out.2.1.getD k;have hN:=zh (fun (S:Nat) (hS:a.getD k 0 = S) (h0:S ≠ 0) => zqgd HU.out.2.1 hlt hz.out S hS h0)
   have hM:=zh (fun (hS:a.getD k 0 = 0) => fun j (hj:j < k + 1) => (by by_cases e:j = k; rw [e]; exact hS; exact hz.out j (by omega):a.getD j 0 = 0))
   generalize a.getD k 0 = s at *;obtain ⟨S,rfl⟩:=Int.eq_ofNat_of_zero_le hd.1;have hN2:=zh (hN.out S rfl);clear hN hz hb1
   by_cases h0:S = 0
   ·have hs0:((S:Nat):Int) = 0:=by omega
    have hM2:=zh (hM.out hs0);clear hM h0;go_wp2_with fail;go_round
    case rel => exact ⟨k + 1,by omega,by go_num,hM2⟩
    case measure => simp [intOf]; omega
   ·have hs0:¬ ((S:Nat):Int) = 0:=by omega
    have hC:=zh (zqxv S (by omega) h0 w HT.out)
    have hR:=zh (hN2.out h0);have hlow:Lib.ctz 32 S < 32:=(Lib.lowest_bit 32 S h0 (by omega)).2
    clear hM hN2 h0;generalize Lib.ctz 32 S = t at *;go_wp2_with fail;refine (hC.out).mono ?_; rintro e w' ⟨rfl,rfl⟩;go_wp2_with fail;go_ret;exact ⟨k * 32 + t,zqar (by omega),hR.out,rfl⟩
  ·have hE:=zh (zql4 (a:=a) (k:=a.length) (fun j hj => hz.out j (by omega)))
   clear hz;go_wp2_with fail;go_ret;exact ⟨0,rfl,.inl ⟨hE.out,rfl⟩,rfl⟩
end Go.Proofs.YtmnbljijnbhghaaGreatDoor
namespace Go.Proofs.YtmnbljijnbhghaaGreatDoor
set_option maxRecDepth 100000
open Go.RowKit
set_option linter.unusedVariables false
def Tab64 (w:World):Prop:=TabAt 2 Lib.deBruijn64tab w
theorem Tab64.call {w w':World} (h:Tab64 w) (hb:Below w.heap.size w w'):Tab64 w':=fun j hj => cell_later hb (h j hj)
set_option maxHeartbeats 1000000 in
theorem tz64_core (x k idx:Nat) (w:World) (hx0:((x:Int) == 0) = false)
  (key:IntKind.u64.wrap (bits BinOp.and IntKind.u64 (x:Int) (IntKind.u64.wrap (-(x:Int))) * 285870213051353865) / 288230376151711744 = (idx:Int))
  (hi:idx < 64) (hk:k < 64) (hcell:w.cell? ⟨2,idx,none⟩ = some (.int .u8 k)) :
  Calls Tryz.prog 208 #[.int .u64 x] w fun e w' => e = .returned (.int .i64 k) ∧ w = w':=by
 go_enter Tryz.func208,Tryz.ntmps208;go_wp2_with (simp only [key]);go_ret;exact ⟨rfl,rfl⟩
theorem zqxw (x:Nat) (hx:x < 18446744073709551616) (hx0:x ≠ 0) (w:World) (hT:Tab64 w) :
  Calls Tryz.prog 208 #[.int .u64 x] w fun e w' => e = .returned (.int .i64 (Lib.ctz 64 x)) ∧ w = w':=by
 obtain ⟨hlow,hk⟩:=Lib.lowest_bit 64 x hx0 hx;obtain ⟨hi,htab⟩:=Lib.deBruijn64_at _ hk;have hcell:=hT _ hi;rw [htab] at hcell;exact tz64_core x _ _ w (by simp; omega) (tz64_key x _ hx hx0 hlow) hi hk hcell
def NormPost (c:Nat) (q:Int) (w:World) (e:Ending) (w':World):Prop:=(∃ (d:Nat) (p k:Int),4503599627370496 ≤ d ∧ d < 9007199254740992 ∧ -1074 ≤ p ∧ p ≤ 971 ∧ SameD d (p + k) c q ∧ -52 ≤ k ∧ k ≤ 0 ∧ e = .returned (.tuple #[.float .f64 (rungOf d p),.int .i64 k])) ∧ w = w'
theorem zqw1 {c:Nat} (h0:c ≠ 0) (h1:c < 4503599627370496):∃ d p,4503599627370496 ≤ d ∧ d < 9007199254740992 ∧ -1074 ≤ p ∧ p ≤ 971 ∧ SameD d (p + -52) c (-1074) ∧ floatBits .mul .f64 (rungOf c (-1074)) 4841369599423283200 = some (rungOf d p):=by
 obtain ⟨d,p,k1,k2,k3⟩:=zqmm _ c (-1022) (Nat.le_refl _) (by omega) (by omega)
 have hd:4503599627370496 ≤ d:=by
  obtain ⟨a,b,h | h⟩:=k2
  ·exact h
  ·subst h;obtain ⟨k,⟨g1,g2⟩ | ⟨g1,g2⟩⟩:=k1
   ·obtain rfl:k = 52:=by omega
    omega
   ·omega
 have hc:Canon c (-1074):=⟨by omega,by omega,.inr rfl⟩
 have h52:FV false 4841369599423283200 1 52:=⟨4503599627370496,0,⟨52,.inl ⟨by decide,by decide⟩⟩,⟨by decide,by decide,.inl (by decide)⟩,by decide,by decide⟩
 refine ⟨d,p,hd,k2.1,k2.2.1,by omega,?_,zqs3 (fvc hc (by omega)) h52 ?_⟩
 ·have:=(k1.add (-52)).symm;exact this
 ·rw [Nat.mul_one];exact (fvc k2 (by omega)).same k1
set_option maxHeartbeats 1000000 in
theorem zqw0 (c:Nat) (q:Int) (w:World) (hc:Canon c q) (hq:q ≤ 971) (h0:c ≠ 0) :
  Calls Tryz.prog 217 #[.float .f64 (rungOf c q)] w (NormPost c q w):=by
 have hr:=zqb1 hc hq;have hw:=(zqig hc hq).1;have hn:=(zqig hc hq).2;have hA:=zh (fun w => zqh0 (rungOf c q) w hw)
 rw [show rungOf c q % 9223372036854775808 = rungOf c q by omega] at hA
 have hlt:=zqjj hn (y:=4503599627370496) ⟨by decide,by decide⟩
 rw [zqbg (by omega),zqbg (x:=4503599627370496) (by omega)] at hlt
 unfold NormPost
 by_cases h:rungOf c q < 4503599627370496
 ·have hq2:q = -1074:=by obtain ⟨a,b,d⟩:=hc; unfold rungOf at h; omega
  subst hq2;have hc52:c < 4503599627370496:=by unfold rungOf at h; omega
  obtain ⟨d,p,k1,k2,k3,k4,k5,k6⟩:=zqw1 h0 hc52;have hl:(FloatKind.f64.format.order (rungOf c (-1074)) 4503599627370496 == some .lt) = true:=by rw [hlt]; simp; omega
  have hop:∀ t w,(binOp .mul t (.float .f64 (rungOf c (-1074))) (.float .f64 4841369599423283200)).run Tryz.prog w = .ok (.float .f64 (rungOf d p)) w:=fun t w => run_float_arith w .mul t .f64 _ _ _ k6
  have hE:=zh (show ∃ (d':Nat) (p' k':Int),4503599627370496 ≤ d' ∧ d' < 9007199254740992 ∧ -1074 ≤ p' ∧ p' ≤ 971 ∧ SameD d' (p' + k') c (-1074) ∧ -52 ≤ k' ∧ k' ≤ 0 ∧ Ending.returned (.tuple #[.float .f64 (rungOf d p),.int .i64 (-52)]) = .returned (.tuple #[.float .f64 (rungOf d' p'),.int .i64 k']) from ⟨d,p,-52,k1,k2,k3,k4,k5,by omega,by omega,rfl⟩)
  generalize rungOf c (-1074) = X at *;generalize rungOf d p = R at *;clear hlt h hc hq h0 hr hw hn hc52 k1 k2 k3 k4 k5 k6;go_enter Tryz.func217,Tryz.ntmps217;go_wp2_with fail;refine (hA.out _).mono ?_; rintro e w1 ⟨rfl,rfl⟩;go_wp2_with (simp only);go_ret2;exact ⟨hE.out,rfl⟩
 ·have hd:4503599627370496 ≤ c:=by obtain ⟨a,b,d⟩:=hc; unfold rungOf at h; omega
  have hl:(FloatKind.f64.format.order (rungOf c q) 4503599627370496 == some .lt) = false:=by rw [hlt]; simp; omega
  have hE:=zh (show ∃ (d':Nat) (p' k':Int),4503599627370496 ≤ d' ∧ d' < 9007199254740992 ∧ -1074 ≤ p' ∧ p' ≤ 971 ∧ SameD d' (p' + k') c q ∧ -52 ≤ k' ∧ k' ≤ 0 ∧ Ending.returned (.tuple #[.float .f64 (rungOf c q),.int .i64 0]) = .returned (.tuple #[.float .f64 (rungOf d' p'),.int .i64 k']) from ⟨c,q,0,hd,hc.1,hc.2.1,hq,by rw [Int.add_zero]; exact SameD.refl _ _,by omega,by omega,rfl⟩)
  generalize rungOf c q = X at *;clear hlt h hc hq h0 hr hw hn hd;go_enter Tryz.func217,Tryz.ntmps217;go_wp2_with fail;refine (hA.out _).mono ?_; rintro e w1 ⟨rfl,rfl⟩;go_wp2_with fail;go_ret2;exact ⟨hE.out,rfl⟩
theorem zqst {c:Nat} {q:Int} (hc:Canon c q) (hq:q ≤ 971) (h0:c ≠ 0):isNaNB (rungOf c q) = false ∧ isInfB (rungOf c q) = false ∧ isZeroB (rungOf c q) = false ∧ kindI (rungOf c q) = 1:=by
 have hr:=zqb1 hc hq;have hp:0 < rungOf c q:=by unfold rungOf; omega
 have h1:isNaNB (rungOf c q) = false:=by unfold isNaNB; simp; omega
 have h2:isInfB (rungOf c q) = false:=by unfold isInfB; simp; omega
 have h3:isZeroB (rungOf c q) = false:=by unfold isZeroB; simp; omega
 exact ⟨h1,h2,h3,by unfold kindI; rw [h1,h2,h3]; rfl⟩
theorem zquh {a b:Nat} {i j:Int} (h:a = b) (h2:i = j):Ending.returned (.tuple #[.float .f64 a,.int .i64 i]) = .returned (.tuple #[.float .f64 b,.int .i64 j]):=by rw [h,h2]
def FrexpPost (c:Nat) (q:Int) (w:World) (e:Ending) (w':World):Prop:=(∃ (d:Nat) (k:Int),4503599627370496 ≤ d ∧ d < 9007199254740992 ∧ SameD d (k - 53) c q ∧ -1200 ≤ k ∧ k ≤ 1100 ∧ e = .returned (.tuple #[.float .f64 (rungOf d (-53)),.int .i64 k])) ∧ w = w'
theorem zqqn {d:Nat} {p:Int} (h1:4503599627370496 ≤ d) (h2:d < 9007199254740992) (h3:-1074 ≤ p) (h4:p ≤ 971) :
  (rungOf d p:Int) / 4503599627370496 = p + 1075 ∧ (rungOf d p:Int) % 4503599627370496 = d - 4503599627370496 ∧ (rungOf d p:Int) < 9223372036854775808:=by
 unfold rungOf; omega
set_option maxHeartbeats 2000000 in
theorem zqqo (c:Nat) (q:Int) (w:World) (hc:Canon c q) (hq:q ≤ 971) (h0:c ≠ 0) :
  Calls Tryz.prog 214 #[.float .f64 (rungOf c q)] w (FrexpPost c q w):=by
 obtain ⟨t1,t2,t3,t4⟩:=zqst hc hq h0;have hw:=(zqig hc hq).1;have hZ:=zqdj _ hw;have hI:=zh (fun w => zqk4 _ w hw)
 have hN:=zh (fun w => zqeo _ w hw)
 rw [t3] at hZ;rw [t2] at hI;rw [t1] at hN;have hM:=zh (fun w => zqw0 c q w hc hq h0)
 have hF:=fun x w => fbits x w
 have hG:=fun n w => ffrom n w
 unfold FrexpPost;generalize rungOf c q = X at *;clear t1 t2 t3 t4 hw;go_enter Tryz.func214,Tryz.ntmps214;go_wp2_with fail;refine (hI.out _).mono ?_; rintro e w1 ⟨rfl,rfl⟩;go_wp2_with fail;refine (hN.out _).mono ?_; rintro e w1 ⟨rfl,rfl⟩;go_wp2_with fail;refine (hM.out _).mono ?_; rintro e w1 ⟨⟨d,p,k,k1,k2,k3,k4,k5,k6,k7,rfl⟩,rfl⟩;obtain ⟨b1,b2,b3⟩:=zqqn k1 k2 k3 k4;have hS:=zh (show SameD d (k + (p + 53) - 53) c q by rw [show k + (p + 53) - 53 = p + k by omega]; exact k5)
 have hv:=zh (show d - 4503599627370496 + 4602678819172646912 = rungOf d (-53) by unfold rungOf; omega)
 have hb0:(0:Int) ≤ (rungOf d p:Int):=by omega
 have hA:=low11 (p + 1075) (by omega) (by omega)
 rw [show (p + 1075) % 2048 = p + 1075 by omega] at hA
 have hC:=clrExp (rungOf d p:Int) hb0 b3;rw [b2] at hC;have hO:=orExp ((d:Int) - 4503599627370496) 1022 (by omega) (by omega) (by omega)
 rw [show ((1022:Nat):Int) * 4503599627370496 = 4602678819172646912 by decide] at hO
 generalize rungOf d p = R at *;clear hI hN hM hZ k5 b2;go_wp2_with (first | simp only | simp only [hC] | simp only [hO])
 go_ret2;exact ⟨⟨d,k + (p + 53),k1,k2,hS.out,by omega,by omega,zquh hv.out (by omega)⟩,rfl⟩
theorem zqs2 (c:Nat) (q:Int) (w:World) (hc:Canon c q) (hq:q ≤ 971) (h0:c ≠ 0) :
  Calls Tryz.prog 206 #[.float .f64 (rungOf c q)] w (FrexpPost c q w):=by
 have hM:=zh (fun w => zqqo c q w hc hq h0)
 unfold FrexpPost at *;generalize rungOf c q = X at *;go_enter Tryz.func206,Tryz.ntmps206;go_wp2_with fail;refine (hM.out _).mono ?_; rintro e w1 ⟨⟨d,k,k1,k2,k3,k4,k5,rfl⟩,rfl⟩;have k3:=zh k3;generalize hv:rungOf d (-53) = R at *;have hv:=zh hv;go_wp2_with fail;go_ret2;exact ⟨⟨d,k,k1,k2,k3.out,k4,k5,zquh hv.out.symm rfl⟩,rfl⟩
theorem zqqp {c d:Nat} {q k:Int} (h1:4503599627370496 ≤ d) (h2:d < 9007199254740992) (hs:SameD d (k - 53) c q):Lib.ctz 64 d < 64 ∧ IsSplit c q ((d:Int) / 2 ^ Lib.ctz 64 d) (k - 53 + Lib.ctz 64 d):=by
 obtain ⟨m,hm,hlt⟩:=Lib.ctzFrom_spec 64 d (by omega) (by omega)
 have hc:Lib.ctz 64 d = Lib.ctzFrom 64 d:=by unfold Lib.ctz; rw [if_neg (by omega)]
 rw [hc];generalize Lib.ctzFrom 64 d = t at *;have hp:=zqay t;have hq:d / 2 ^ t = 2 * m + 1:=by rw [hm]; exact Nat.mul_div_cancel_left _ hp
 have hi:(d:Int) / 2 ^ t = ((2 * m + 1:Nat):Int):=by
  have e:((2:Int) ^ t) = ((2 ^ t:Nat):Int):=by simp
  rw [e,← Int.natCast_ediv,hq]
 have hle:2 * m + 1 ≤ d:=by rw [hm]; exact Nat.le_mul_of_pos_left _ hp
 refine ⟨hlt,?_⟩;rw [hi];refine ⟨by omega,by omega,SameD.trans ⟨t,.inl ⟨by omega,?_⟩⟩ hs,by omega⟩
 rw [Int.toNat_natCast,Nat.mul_comm]; exact hm
def PSplitPost (x c:Nat) (q:Int) (w:World) (e:Ending) (w':World):Prop:=(∃ m k:Int,IsSplit c q m k ∧ e = .returned (.tuple #[.bool (negB x),.int .u64 m,.int .i64 k])) ∧ Drawn w w'
set_option maxHeartbeats 2000000 in
theorem zqrg (x c:Nat) (q:Int) (w:World) (hx:W64 x) (hk:kindI x = 1) (hc:Canon c q) (hq:q ≤ 971) (h0:c ≠ 0) (hr:rungOf c q = x % 9223372036854775808) (hT:Tab64 w) :
  Calls Tryz.prog 194 #[.float .f64 x] w (PSplitPost x c q w):=by
 have hA:=zh (fun w => zqk0 x w hx)
 rw [hk] at hA;obtain ⟨g1,g2,g3,g4,g5⟩:=zqd7 hx hk;have hL:=zqyu hx g1 g3;have hB:=zh (fun w => zqh0 x w hx)
 rw [← hr] at hB;have hF:=zh (fun w => zqs2 c q w hc hq h0)
 have HT:=zh hT;have h53:FV false 4845873199050653696 1 53:=⟨4503599627370496,1,⟨52,.inl ⟨by decide,by decide⟩⟩,⟨by decide,by decide,.inl (by decide)⟩,by decide,by decide⟩
 have hop:∀ d:Nat,4503599627370496 ≤ d → d < 9007199254740992 → ∀ t w,(binOp .mul t (.float .f64 (rungOf d (-53))) (.float .f64 4845873199050653696)).run Tryz.prog w = .ok (.float .f64 (rungOf d 0)) w:=fun d k1 k2 t w => run_float_arith w .mul t .f64 _ _ _ (zqs3 (fvc ⟨k2,by omega,.inl k1⟩ (by omega)) h53 (by rw [Nat.mul_one]; exact fvc ⟨k2,by omega,.inl k1⟩ (by omega)))
 have hcv:∀ d:Nat,4503599627370496 ≤ d → d < 9007199254740992 → ∀ w,(convert 88 34 (.float .f64 (rungOf d 0))).run Tryz.prog w = .ok (.int .u64 (d:Int)) w:=fun d k1 k2 w => run_convert_float_int w 88 34 .f64 .u64 _ _ (by rw [Tryz.underlying88]; rfl) Tryz.underlying34 (by
  have h:=zqvb (c:=d) (q:=0) ⟨k2,by omega,.inl k1⟩ (by omega)
  have e:wholeN d 0 = d:=by unfold wholeN; simp
  rw [e] at h; exact h)
 have Hop:=zh hop;have Hcv:=zh hcv;clear hop hcv hT;unfold PSplitPost;generalize hb:negB x = b at *;generalize rungOf c q = X at *;clear hk hr g1 g2 g3 g4 g5 hc hq h0 hb h53;go_enter Tryz.func194,Tryz.ntmps194;go_wp2_with fail;refine (hA.out _).mono ?_; rintro e w1 ⟨rfl,rfl⟩;go_wp2_with fail;refine (hB.out _).mono ?_; rintro e w1 ⟨rfl,rfl⟩;go_wp2_with fail;refine (hF.out _).mono ?_; rintro e w1 ⟨⟨d,k,k1,k2,k3,k4,k5,rfl⟩,rfl⟩;have hop:=Hop.out d k1 k2;have hcv:=Hcv.out d k1 k2;have hTz:=zh (zqxw d (by omega) (by omega) w HT.out)
 obtain ⟨ht,hs⟩:=zqqp k1 k2 k3;have hs:=zh hs;generalize rungOf d (-53) = R1 at *;generalize rungOf d 0 = R2 at *;generalize Lib.ctz 64 d = t at *;clear hA hB hF k3;go_wp2_with (first | simp only | simp only [hcv])
 refine (hTz.out).mono ?_; rintro e w1 ⟨rfl,rfl⟩;clear hTz hop hcv;go_wp2_with fail;go_quiet (fail);go_wp2_with fail;go_ret3;exact ⟨⟨_,_,hs.out,rfl⟩,(Drawn.refl _).next _⟩
theorem zqng (x:Nat) (w:World) (hx:W64 x) (hk:kindI x ≠ 1) :
  Calls Tryz.prog 194 #[.float .f64 x] w fun e w' => e = .returned (.tuple #[.bool (belowB x),.int .u64 0,.int .i64 0]) ∧ w = w':=by
 have hA:=zh (fun w => zqk0 x w hx)
 have hS:=zh (fun w => zqe6 x w hx)
 have k3:=zqd6 x;have k1:(kindI x != 1) = true:=by simpa using hk
 unfold belowB;generalize isNaNB x = n at *;generalize negB x = b at *;generalize kindI x = K at *;clear hk;cases n
 ·go_enter Tryz.func194,Tryz.ntmps194;go_wp2_with fail;refine (hA.out _).mono ?_; rintro e w1 ⟨rfl,rfl⟩;go_wp2_with fail;refine (hS.out _).mono ?_; rintro e w1 ⟨rfl,rfl⟩;go_wp2_with fail;go_ret3;exact ⟨rfl,rfl⟩
 ·go_enter Tryz.func194,Tryz.ntmps194;go_wp2_with fail;refine (hA.out _).mono ?_; rintro e w1 ⟨rfl,rfl⟩;go_wp2_with fail;go_ret3;exact ⟨rfl,rfl⟩
set_option maxRecDepth 100000
open Go.RowKit
set_option linter.unusedVariables false
end Go.Proofs.YtmnbljijnbhghaaGreatDoor
namespace Go.Proofs.YtmnbljijnbhghaaGreatDoor
set_option maxRecDepth 100000
open Go.RowKit
set_option linter.unusedVariables false
theorem zqn5 {l:List Int} {j:Nat} {x:Int}:wvN (l.set j x) j = wvN l j:=zqe3 (fun i hi => by rw [List.getD,List.getD,List.getElem?_set_ne (by omega)])
theorem zqf5 {l:List Int} {j:Nat} {x:Int} (h:j < l.length):(l.set j x).getD j 0 = x:=by simp [List.getD,h]
theorem zqbz {l:List Int} {i j:Nat} {x:Int} (h:j ≠ i):(l.set j x).getD i 0 = l.getD i 0:=by rw [List.getD,List.getD,List.getElem?_set_ne h]
theorem zqbx {l:List Int} {j:Nat} {x:Int} (h:j < l.length):wvN (l.set j x) (j + 1) = wvN l j + x * 4294967296 ^ j:=by
 rw [wvN,zqn5,zqf5 h]
theorem Wd.set {l:List Int} (hd:Wd l) {j:Nat} {x:Int} (h1:0 ≤ x) (h2:x ≤ 4294967295):Wd (l.set j x):=by
 intro y hy;rcases List.mem_or_eq_of_mem_set hy with h | h
 ·exact hd y h
 ·subst h; exact ⟨h1,h2⟩
theorem Wd.zeros (n:Nat):Wd (List.replicate n 0):=fun x hx => by have:=List.eq_of_mem_replicate hx; omega
def AddRel (a b:List Int) (i:Nat) (out:List Int) (c:Int):Prop:=wvN a i + wvN b i = wvN out i + 4294967296 ^ i * c ∧ Wd out ∧ out.length = a.length + 1 ∧ 0 ≤ c ∧ c ≤ 1
theorem AddRel.start (a b:List Int):AddRel a b 0 (List.replicate (a.length + 1) 0) 0:=⟨by simp [wvN],Wd.zeros _,by simp,by omega,by omega⟩
theorem AddRel.step {a b out:List Int} {i:Nat} {c:Int} (ha:Wd a) (hb:Wd b) (h:AddRel a b i out c) (hi:i < a.length) (x y:Int) (hx:a.getD i 0 = x) (hy:b.getD i 0 = y) :
  AddRel a b (i + 1) (out.set i ((x + y + c) % 4294967296)) ((x + y + c) / 4294967296):=by
 obtain ⟨h1,h2,h3,h4,h5⟩:=h;have h6:=ha.getD i;have h7:=hb.getD i;rw [hx] at h6;rw [hy] at h7;refine ⟨?_,h2.set (by omega) (by omega),by simpa using h3,by omega,by omega⟩
 rw [zqbx (by omega),wvN,wvN,hx,hy,zqd9]
 have e:=zqe9 (x + y + c) (4294967296 ^ i);have e1:(x + y + c) * 4294967296 ^ i = x * 4294967296 ^ i + y * 4294967296 ^ i + c * 4294967296 ^ i:=by rw [Int.add_mul,Int.add_mul]
 have e2:4294967296 ^ i * 4294967296 * ((x + y + c) / 4294967296) = (x + y + c) / 4294967296 * (4294967296 ^ i * 4294967296):=Int.mul_comm _ _;have e3:4294967296 ^ i * c = c * 4294967296 ^ i:=Int.mul_comm _ _;omega
theorem AddRel.stop {a b out:List Int} {c:Int} (h:AddRel a b a.length out c) (hl:b.length ≤ a.length):wv (out.set a.length c) = wv a + wv b ∧ Wd (out.set a.length c) ∧ (out.set a.length c).length = a.length + 1:=by
 obtain ⟨h1,h2,h3,h4,h5⟩:=h;refine ⟨?_,h2.set h4 (by omega),by simpa using h3⟩
 have e:(out.set a.length c).length = a.length + 1:=by simpa using h3
 rw [wv,e,zqbx (by omega),wv,← zqcb b hl,h1,Int.mul_comm c]
def Fill (w:World) (g:Nat) (cap:Nat) (out:List Int) (wr:World):Prop:=WRow wr w.heap.size g cap out ∧ Below w.heap.size w wr
theorem Fill.set {w wr:World} {g cap:Nat} {out:List Int} (h:Fill w g cap out wr) (j:Nat) (x:Int):Fill w g cap (out.set j x) (wr.setCell ⟨g,j,none⟩ (.int .u32 x)) :=
 ⟨h.1.set j x,zqr9 h.2 h.1.facts.1 j _⟩
theorem Fill.drewN {w wr:World} {g cap:Nat} {out:List Int} (h:Fill w g cap out wr) (n:Nat):Fill w g cap out (wr.drewN n):=⟨h.1.drewN n,below_drewN h.2 n⟩
theorem Fill.cells {w wr:World} {g cap:Nat} {out:List Int} (h:Fill w g cap out wr) {j:Nat} (hj:j < out.length):wr.cell? ⟨g,j,none⟩ = some (.int .u32 (out.getD j 0)) ∧ wr.frozen? ⟨g,j,none⟩ = false:=h.1.facts.2.2.2.2 j hj
theorem zqd3 {w wr:World} {g cap n:Nat} {out:List Int} {v:Value} {z:Int} {m:Nat} (h:Fill w g cap out wr) (hd:Wd out) (hl:out.length ≤ 1099511627776) (hz:wv out = z) (hm:out.length ≤ m) (hc:Cut (some ⟨g,0,none⟩) cap out v n):Fresh w z m (.returned v) wr:=by
 have hw:=hc.wlist (h.1.wlist hd hl);exact ⟨v,_,rfl,hc.own h.1,hw.1.2.1,hw.2.2,hw.2.1.trans hz,by rw [List.length_take]; omega,h.2⟩
set_option maxHeartbeats 1000000 in
theorem zqo7 (u v:Value) (a b:List Int) (w:World) (hu:WList w u a) (hv:WList w v b) (la:a.length ≤ 1099511627775) (lb:b.length ≤ 1099511627775) :
  Calls Tryz.prog 151 #[u,v] w (Fresh w (wv a + wv b) (max a.length b.length + 1)):=by
 obtain ⟨i0,hi,hz0,hz1,hz2⟩:=info_parts Tryz.infoU32;obtain ⟨p,c,rfl⟩:=hu.shape;obtain ⟨q,d,rfl⟩:=hv.shape;have HU:=zh hu;have HV:=zh hv;clear hu hv
 by_cases hab:a.length < b.length
 ·go_enter Tryz.func151,Tryz.ntmps151;have hle:Hid (a.length ≤ b.length):=zh (by omega)
  have hmx:Hid (max a.length b.length = b.length):=zh (by omega)
  go_wp2_with (at_make; refine wpList_make_full _ rfl _ _ 24 rfl w.heap.size 27 i0 (.int .u32 0) 1 Tryz.underlying24 hi hz0 hz1 .i64 .i64 _ _ (b.length + 1) rfl rfl (by omega) (by omega) (by rw [hz2]; omega) (by unfold maxLen; omega) (by simp) ?_; intro w0 hown hgrow)
  have hF:=zh (zqbw rfl hown hgrow);clear hown hgrow;go_wp2_with fail;go_loopw [6,22] (fun cy i wr => ∃ (k:Nat) (out:List Int) (cr:Int),k ≤ b.length ∧ i = .int .i64 k ∧ cy = .int .u32 cr ∧ Hid (AddRel b a k out cr) ∧ Hid (Fill w w.heap.size (b.length + 1) out wr)) (fun _ i _ => b.length - (intOf i).toNat)
  case atStart => exact ⟨0,_,0,Nat.zero_le _,rfl,rfl,zh (AddRel.start b a),hF⟩
  case round =>
   obtain ⟨k,out,cr,hk,rfl,rfl,hR,hS⟩:=hrel;clear hF;have c0:=hR.out.2.2.2.1;have c1:=hR.out.2.2.2.2;have hlen:=zh hR.out.2.2.1
   by_cases hlt:k < b.length
   ·have ho:k < b.length + 1:=by omega
    obtain ⟨ho1,ho2⟩:=hS.out.cells (j:=k) (by have:=hlen.out; omega)
    obtain ⟨b1,o1,hp1,hb1,hc1⟩:=HV.out.1.cell (i:=k) hlt;subst hp1;have hc1:=cell_later hS.out.2 hc1;have dx:=HV.out.2.1.getD k;have dy:=HU.out.2.1.getD k;have hst:=zh (fun (x y:Int) (hx:b.getD k 0 = x) (hy:a.getD k 0 = y) => hR.out.step HV.out.2.1 HU.out.2.1 hlt x y hx hy)
    generalize b.getD k 0 = x at *;have hSS:=zh (fun (z:Int) => hS.out.set k z)
    by_cases hyl:k < a.length
    ·obtain ⟨b2,o2,hp2,hb2,hc2⟩:=HU.out.1.cell (i:=k) hyl;subst hp2;have hc2:=cell_later hS.out.2 hc2;generalize a.getD k 0 = y at *;have hst2:=zh (hst.out x y rfl rfl);clear hst hS hR hb1 hb2;go_wp2_with (go_at_call 185; refine (zqeh x y cr dx.1 dx.2 dy.1 dy.2 c0 (by omega) _).mono ?_; rintro e w' ⟨rfl,rfl⟩)
     go_roundw
     case rel => exact ⟨k + 1,_,_,by omega,by go_num,rfl,hst2,zh (hSS.out _)⟩
     case measure => simp [intOf]; omega
    ·have hy0:a.getD k 0 = 0:=zqa3 (by omega)
     have hst2:=zh (hst.out x 0 rfl hy0);rw [Int.add_zero] at hst2;clear hst hS hR hb1 hy0 dy;go_wp2_with (go_at_call 185; refine (zqeh x 0 cr dx.1 dx.2 (by decide) (by decide) c0 (by omega) _).mono ?_; rintro e w' ⟨rfl,rfl⟩)
     go_roundw
     case rel => exact ⟨k + 1,_,_,by omega,by go_num,rfl,hst2,zh (hSS.out _)⟩
     case measure => simp [intOf]; omega
   ·obtain rfl:k = b.length:=by omega
    obtain ⟨ho1,ho2⟩:=hS.out.cells (j:=b.length) (by have:=hlen.out; omega)
    have hE:=zh (hR.out.stop hle.out);have hT:=zh (hS.out.set b.length cr);have hl2:=hE.out.2.2;have hW:=zh (hT.out.1.wlist hE.out.2.1 (by omega))
    have HS:=zh (zqbh _ _ _ _ _ hW.out.1 (by omega))
    rw [hl2] at HS;clear hR hS hl2 hW;go_wp2_with fail;refine (HS.out).mono ?_; rintro e w' ⟨u1,n,rfl,hc,rfl⟩;go_wp2_with fail;go_ret;exact zqd3 hT.out hE.out.2.1 (by have:=hE.out.2.2; omega) (by rw [hE.out.1]; exact Int.add_comm _ _) (by have:=hE.out.2.2; have:=hmx.out; omega) hc
 ·go_enter Tryz.func151,Tryz.ntmps151;have hle:Hid (b.length ≤ a.length):=zh (by omega)
  have hmx:Hid (max a.length b.length = a.length):=zh (by omega)
  go_wp2_with (at_make; refine wpList_make_full _ rfl _ _ 24 rfl w.heap.size 27 i0 (.int .u32 0) 1 Tryz.underlying24 hi hz0 hz1 .i64 .i64 _ _ (a.length + 1) rfl rfl (by omega) (by omega) (by rw [hz2]; omega) (by unfold maxLen; omega) (by simp) ?_; intro w0 hown hgrow)
  have hF:=zh (zqbw rfl hown hgrow);clear hown hgrow;go_wp2_with fail;go_loopw [6,22] (fun cy i wr => ∃ (k:Nat) (out:List Int) (cr:Int),k ≤ a.length ∧ i = .int .i64 k ∧ cy = .int .u32 cr ∧ Hid (AddRel a b k out cr) ∧ Hid (Fill w w.heap.size (a.length + 1) out wr)) (fun _ i _ => a.length - (intOf i).toNat)
  case atStart => exact ⟨0,_,0,Nat.zero_le _,rfl,rfl,zh (AddRel.start a b),hF⟩
  case round =>
   obtain ⟨k,out,cr,hk,rfl,rfl,hR,hS⟩:=hrel;clear hF;have c0:=hR.out.2.2.2.1;have c1:=hR.out.2.2.2.2;have hlen:=zh hR.out.2.2.1
   by_cases hlt:k < a.length
   ·have ho:k < a.length + 1:=by omega
    obtain ⟨ho1,ho2⟩:=hS.out.cells (j:=k) (by have:=hlen.out; omega)
    obtain ⟨b1,o1,hp1,hb1,hc1⟩:=HU.out.1.cell (i:=k) hlt;subst hp1;have hc1:=cell_later hS.out.2 hc1;have dx:=HU.out.2.1.getD k;have dy:=HV.out.2.1.getD k;have hst:=zh (fun (x y:Int) (hx:a.getD k 0 = x) (hy:b.getD k 0 = y) => hR.out.step HU.out.2.1 HV.out.2.1 hlt x y hx hy)
    generalize a.getD k 0 = x at *;have hSS:=zh (fun (z:Int) => hS.out.set k z)
    by_cases hyl:k < b.length
    ·obtain ⟨b2,o2,hp2,hb2,hc2⟩:=HV.out.1.cell (i:=k) hyl;subst hp2;have hc2:=cell_later hS.out.2 hc2;generalize b.getD k 0 = y at *;have hst2:=zh (hst.out x y rfl rfl);clear hst hS hR hb1 hb2;go_wp2_with (go_at_call 185; refine (zqeh x y cr dx.1 dx.2 dy.1 dy.2 c0 (by omega) _).mono ?_; rintro e w' ⟨rfl,rfl⟩)
     go_roundw
     case rel => exact ⟨k + 1,_,_,by omega,by go_num,rfl,hst2,zh (hSS.out _)⟩
     case measure => simp [intOf]; omega
    ·have hy0:b.getD k 0 = 0:=zqa3 (by omega)
     have hst2:=zh (hst.out x 0 rfl hy0);rw [Int.add_zero] at hst2;clear hst hS hR hb1 hy0 dy;go_wp2_with (go_at_call 185; refine (zqeh x 0 cr dx.1 dx.2 (by decide) (by decide) c0 (by omega) _).mono ?_; rintro e w' ⟨rfl,rfl⟩)
     go_roundw
     case rel => exact ⟨k + 1,_,_,by omega,by go_num,rfl,hst2,zh (hSS.out _)⟩
     case measure => simp [intOf]; omega
   ·obtain rfl:k = a.length:=by omega
    obtain ⟨ho1,ho2⟩:=hS.out.cells (j:=a.length) (by have:=hlen.out; omega)
    have hE:=zh (hR.out.stop hle.out);have hT:=zh (hS.out.set a.length cr);have hl2:=hE.out.2.2;have hW:=zh (hT.out.1.wlist hE.out.2.1 (by omega))
    have HS:=zh (zqbh _ _ _ _ _ hW.out.1 (by omega))
    rw [hl2] at HS;clear hR hS hl2 hW;go_wp2_with fail;refine (HS.out).mono ?_; rintro e w' ⟨u1,n,rfl,hc,rfl⟩;go_wp2_with fail;go_ret;exact zqd3 hT.out hE.out.2.1 (by have:=hE.out.2.2; omega) (by rw [hE.out.1]) (by have:=hE.out.2.2; have:=hmx.out; omega) hc
theorem zqt1 {w:World} {B:Nat} {v:Value} {a:List Int} (h:w.ownsRow B 27 1 v a.length (a.map (Value.int .u32))) :
  (v = .slice none 0 0 ∧ a = []) ∨ ∃ g cap,v = .slice (some ⟨g,0,none⟩) a.length cap ∧ WRow w B g cap a:=by
 rcases h.2 with ⟨rfl,h0⟩ | ⟨g,cap,cur,rfl,_⟩
 ·exact .inl ⟨rfl,List.length_eq_zero_iff.1 h0⟩
 ·exact .inr ⟨g,cap,rfl,h⟩
def SubRel (a b:List Int) (i:Nat) (out:List Int) (c:Int):Prop :=
 wvN a i - wvN b i = wvN out i - 4294967296 ^ i * c ∧ Wd out ∧ out.length = a.length ∧ 0 ≤ c ∧ c ≤ 1 ∧ ∀ j,i ≤ j → out.getD j 0 = a.getD j 0
theorem SubRel.start {a:List Int} (b:List Int) (ha:Wd a):SubRel a b 0 a 0:=⟨by simp [wvN],ha,rfl,by omega,by omega,fun _ _ => rfl⟩
theorem SubRel.step {a b out:List Int} {i:Nat} {c:Int} (hb:Wd b) (h:SubRel a b i out c) (hi:i < a.length) (x y:Int) (hx:out.getD i 0 = x) (hy:b.getD i 0 = y) :
  SubRel a b (i + 1) (out.set i ((x - y - c) % 4294967296)) (-((x - y - c) / 4294967296)):=by
 obtain ⟨h1,h2,h3,h4,h5,h8⟩:=h;have h6:=h2.getD i;have h7:=hb.getD i;have hxa:=h8 i (Nat.le_refl _);rw [hx] at h6 hxa;rw [hy] at h7;refine ⟨?_,h2.set (by omega) (by omega),by simpa using h3,by omega,by omega,fun j hj => ?_⟩
 ·rw [zqbx (by omega),wvN,wvN,← hxa,hy,zqd9]
  have e:=zqe9 (x - y - c) (4294967296 ^ i);have e1:(x - y - c) * 4294967296 ^ i = x * 4294967296 ^ i - y * 4294967296 ^ i - c * 4294967296 ^ i:=by rw [Int.sub_mul,Int.sub_mul]
  have e2:4294967296 ^ i * 4294967296 * (-((x - y - c) / 4294967296)) = -((x - y - c) / 4294967296 * (4294967296 ^ i * 4294967296)):=by rw [Int.mul_neg,Int.mul_comm]
  have e3:4294967296 ^ i * c = c * 4294967296 ^ i:=Int.mul_comm _ _;omega
 ·rw [zqbz (by omega)]; exact h8 j (by omega)
theorem SubRel.stop {a b out:List Int} {c:Int} (ha:Wd a) (hb:Wd b) (h:SubRel a b a.length out c) (hle:wv b ≤ wv a):wv out = wv a - wv b:=by
 obtain ⟨h1,h2,h3,h4,h5,h8⟩:=h;have r1:=zqas ha;have r2:=zqas h2;rw [h3] at r2;rw [zqvg hb (n:=a.length) (by omega),zqcb a (Nat.le_refl _),zqcb out (by omega)] at h1
 have:c = 0 ∨ c = 1:=by omega
 rcases this with rfl | rfl
 ·simp at h1; omega
 ·simp at h1; omega
def FreshOk (w:World) (z:Int) (m:Nat) (e:Ending) (w':World):Prop :=
 ∃ v,e = .returned (.tuple #[v,.bool true]) ∧ Fresh w z m (.returned v) w'
def NoneOk (w:World) (e:Ending) (w':World):Prop:=e = .returned (.tuple #[.slice none 0 0,.bool false]) ∧ Below w.heap.size w w'
theorem Fresh.below {w w1 w2:World} {z:Int} {m:Nat} {v:Value} (hb:Below w.heap.size w w1) (h:Fresh w1 z m (.returned v) w2):Fresh w z m (.returned v) w2:=by
 obtain ⟨v',a,e,h1,h2,h3,h4,h5,h6⟩:=h;refine ⟨v',a,e,?_,h2,h3,h4,h5,hb.trans (h6.mono hb.size)⟩;refine ⟨h1.1,?_⟩;rcases h1.2 with h | ⟨g,cap,cur,r1,r2,r3⟩
 ·exact .inl h
 ·exact .inr ⟨g,cap,cur,r1,by have:=hb.size; omega,r3⟩
set_option maxHeartbeats 1000000 in
theorem zqxo (u v:Value) (a b:List Int) (w:World) (hu:WList w u a) (hv:WList w v b) (hlt:wv a < wv b) :
  Calls Tryz.prog 202 #[u,v] w (NoneOk w):=by
 have HC:=zh (zqpd u v a b w hu hv);rw [zqdu hlt] at HC;clear hlt hu hv;go_enter Tryz.func202,Tryz.ntmps202;go_wp2_with fail;refine (HC.out).mono ?_; rintro e w' ⟨rfl,nd,rfl⟩;go_wp2_with fail;go_ret2;exact ⟨rfl,below_drewN (Below.refl _ _) nd⟩
set_option maxHeartbeats 1000000 in
theorem zqpu (u v:Value) (a b:List Int) (w:World) (hu:WList w u a) (hv:WList w v b) (hle:wv b ≤ wv a) :
  Calls Tryz.prog 202 #[u,v] w (FreshOk w (wv a - wv b) a.length):=by
 have HC:=zh (zqpd u v a b w hu hv);have HT:=zh (fun w1 (h:WList w1 u a) => zqnv u a w1 h _ rfl)
 have hcm:0 ≤ cmpI (wv a) (wv b):=zqcx.2 hle;generalize cmpI (wv a) (wv b) = cm at *;have HU:=zh hu;have HV:=zh hv;have HLE:=zh hle;obtain ⟨q,d,rfl⟩:=hv.shape;have lb:=hv.2.2;have lA:=zh hu.2.2;clear hu hv hle;go_enter Tryz.func202,Tryz.ntmps202;go_wp2_with fail;refine (HC.out).mono ?_; rintro e w' ⟨rfl,nd,rfl⟩;have hb0:=below_drewN (Below.refl w.heap.size w) nd;generalize w.drewN nd = W at *;have hb0:=zh hb0;go_wp2_with fail;refine (HT.out _ (HU.out.below hb0.out)).mono ?_; rintro e w1 ⟨u1,x,rfl,hown,hd,ht,hz,hm,hb1⟩;have HV1:=zh (HV.out.below hb0.out);have HD:=zh hd;have HZ:=zh hz;have HM:=zh hm;have lx:x.length ≤ 1099511627776:=by have:=lA.out; omega
 clear hd ht hz hm HU HV HT HC;rcases zqt1 hown with ⟨rfl,rfl⟩ | ⟨g,cap,rfl,hr⟩
 ·have hE:wv a - wv b = 0:=by
   have h1:=HZ.out;have h2:=(zqas HV1.out.2.1).1;have h3:=HLE.out;rw [zqn6] at h1; omega
  have HE:=zh hE;have HS:=zh (zqbh none 0 0 [] w1 WList.nil.1 (by decide))
  have HB:=zh hb1;clear hE hown hb1;go_wp2_with fail;go_loop [18] (fun i => i = .int .i64 0) (fun _ => 0)
  case atStart => rfl
  case round =>
   subst hrel;go_wp2_with fail;refine (HS.out).mono ?_; rintro e w' ⟨u1,n,rfl,hc,rfl⟩;have hw:=hc.wlist (w:=w1) WList.nil;go_wp2_with fail;go_ret2;refine ⟨_,rfl,Fresh.below hb0.out ⟨_,_,rfl,?_,hw.1.2.1,hw.2.2,by rw [hw.2.1,HE.out]; rfl,by simp,HB.out⟩⟩
   rcases hc.1 with ⟨rfl,rfl⟩ | ⟨h0,rfl⟩
   ·exact World.ownsRow_nil _ _ _ _
   ·have:=hc.2.1; simp at this; omega
 ·have hF:Fill W g cap x w1:=⟨hr,hb1⟩;have hF:=zh hF;have hg:=hr.facts.1;clear hown hr hb1;go_wp2_with fail;go_loopw [7,18] (fun cy i wr => ∃ (k:Nat) (out:List Int) (cr:Int),k ≤ x.length ∧ i = .int .i64 k ∧ cy = .int .u32 cr ∧ Hid (SubRel x b k out cr) ∧ Hid (Fill W g cap out wr)) (fun _ i _ => x.length - (intOf i).toNat)
  case atStart => exact ⟨0,_,0,Nat.zero_le _,rfl,rfl,zh (SubRel.start b HD.out),hF⟩
  case round =>
   obtain ⟨k,out,cr,hk,rfl,rfl,hR,hS⟩:=hrel;clear hF;have hB:=zh (HV1.out.below hS.out.2);have c0:=hR.out.2.2.2.1;have c1:=hR.out.2.2.2.2.1;have hlen:=zh hR.out.2.2.1
   by_cases hlt:k < x.length
   ·obtain ⟨ho1,ho2⟩:=hS.out.cells (j:=k) (by have:=hlen.out; omega)
    have dx:=hR.out.2.1.getD k;have dy:=hB.out.2.1.getD k;have hst:=zh (fun (s t:Int) (hx:out.getD k 0 = s) (hy:b.getD k 0 = t) => hR.out.step hB.out.2.1 hlt s t hx hy)
    generalize out.getD k 0 = s at *;have hSS:=zh (fun (z:Int) => hS.out.set k z)
    by_cases hyl:k < b.length
    ·obtain ⟨b2,o2,hp2,hb2,hc2⟩:=hB.out.1.cell (i:=k) hyl;subst hp2;generalize b.getD k 0 = y at *;have hst2:=zh (hst.out s y rfl rfl);clear hst hS hR hb2;go_wp2_with (go_at_call 212; refine (zqlv s y cr dx.1 dx.2 dy.1 dy.2 c0 c1 _).mono ?_; rintro e w' ⟨rfl,rfl⟩);go_roundw
     case rel => exact ⟨k + 1,_,_,by omega,by go_num,rfl,hst2,zh (hSS.out _)⟩
     case measure => simp [intOf]; omega
    ·have hy0:b.getD k 0 = 0:=zqa3 (by omega)
     have hst2:=zh (hst.out s 0 rfl hy0);rw [Int.sub_zero] at hst2;have hs32:=zh (fun w1 => zqlv s 0 cr dx.1 dx.2 (by decide) (by decide) c0 c1 w1)
     rw [Int.sub_zero] at hs32;clear hst hS hR hy0 dy;go_wp2_with (go_at_call 212; refine (hs32.out _).mono ?_; rintro e w' ⟨rfl,rfl⟩);go_roundw
     case rel => exact ⟨k + 1,_,_,by omega,by go_num,rfl,hst2,zh (hSS.out _)⟩
     case measure => simp [intOf]; omega
   ·obtain rfl:k = x.length:=by omega
    have hE:=zh (hR.out.stop HD.out hB.out.2.1 (by have:=HZ.out; have:=HLE.out; omega))
    have hl2:=hlen.out;have hW:=zh (hS.out.1.wlist hR.out.2.1 (by omega))
    have HS:=zh (zqbh _ _ _ _ _ hW.out.1 (by omega))
    rw [hl2] at HS;have hDo:=zh hR.out.2.1;clear hR hl2 hW;go_wp2_with fail;refine (HS.out).mono ?_; rintro e w' ⟨u1,n,rfl,hc,rfl⟩;go_wp2_with fail;go_ret2;exact ⟨_,rfl,Fresh.below hb0.out (zqd3 hS.out hDo.out (by have:=hlen.out; omega) (by rw [hE.out,HZ.out]) (by have:=hlen.out; have:=HM.out; omega) hc)⟩
end Go.Proofs.YtmnbljijnbhghaaGreatDoor
