/- Contracts that the law leans on: Floi Codee. -/
import Derived.Test.YtpgchfihedcdkaaGreatDoorGt02
import Derived.Test.YtpgchfihedcdkaaGreatDoorGt06
import Derived.Test.YtpgchfihedcdkaaGreatDoorGt07
namespace Go.Proofs.YtpgchfihedcdkaaGreatDoor
set_option maxRecDepth 100000
open Go.RowKit
set_option linter.unusedVariables false
theorem zqqt {x:Nat} (hx:W64 x) (hn:isNaNB x = false) (hz:isZeroB x = false):(FloatKind.f64.format.order x 0 == some .lt) = negB x:=by
 rw [zqkj (zqau hx hn) (y:=0) ⟨by decide,by decide⟩,zqbd (x:=0) (by omega)]
 unfold isZeroB at hz;unfold W64 at hx;unfold negB skey;simp only [decide_eq_false_iff_not] at hz;rw [decide_eq_decide]
 by_cases k:x < 9223372036854775808
 ·rw [if_pos k]; omega
 ·rw [if_neg k]; omega
theorem zqdu {x:Nat} (hx:W64 x) (h:kindI x = 1):isNaNB x = false ∧ isInfB x = false ∧ isZeroB x = false ∧ 0 < x % 9223372036854775808 ∧ x % 9223372036854775808 < 9218868437227405312:=by
 unfold kindI at h;cases h1:isNaNB x with
 | true => rw [h1] at h; simp at h
 | false =>
  cases h2:isInfB x with
  | true => rw [h1,h2] at h; simp at h
  | false =>
   cases h3:isZeroB x with
   | true => rw [h1,h2,h3] at h; simp at h
   | false =>
    refine ⟨rfl,rfl,rfl,?_⟩;unfold isNaNB at h1; unfold isInfB at h2; unfold isZeroB at h3;simp only [decide_eq_false_iff_not] at h1 h2 h3;omega
theorem fvc {c:Nat} {q:Int} (h:Canon c q) (hq:q ≤ 971):FV false (rungOf c q) c q:=FV.canon h hq false
theorem zqcm {c:Nat} {q:Int} (h:Canon c q) (hq:q ≤ 971):W64 (rungOf c q) ∧ notNan (rungOf c q):=by
 have:=zqbp h hq;exact ⟨by unfold W64; omega,by omega,by omega⟩
theorem zqdg {r:Nat} (h0:0 < r) (h1:r < 9218868437227405312):∃ c q,Canon c q ∧ q ≤ 971 ∧ c ≠ 0 ∧ rungOf c q = r:=by
 obtain ⟨c,q,k1,k2,k3,-⟩:=zqgp h1;refine ⟨c,q,k1,k2,?_,k3⟩;rintro rfl;rw [zqcs k1] at k3;have:rungOf 0 (-1074) = 0:=by decide
 omega
theorem zqg2 (r:Nat):Ieee.double.word false r = r:=rfl
theorem SameD.add {m c:Nat} {p q:Int} (h:SameD m p c q) (e:Int):SameD m (p + e) c (q + e):=by
 obtain ⟨k,⟨h1,h2⟩ | ⟨h1,h2⟩⟩:=h
 ·exact ⟨k,.inl ⟨by omega,h2⟩⟩
 ·exact ⟨k,.inr ⟨by omega,h2⟩⟩
theorem zqdw {c:Nat} (h:c < 9007199254740992):c.log2 ≤ 52:=by
 by_cases h0:c = 0
 ·subst h0; simp
 ·have:=(Nat.log2_lt h0 (k:=53)).2 h; omega
def IsSplit (c:Nat) (q:Int) (m:Int) (e:Int):Prop:=0 < m ∧ m % 2 = 1 ∧ SameD m.toNat e c q ∧ m < 9007199254740992
theorem zqpf:FV false 4611686018427387904 1 1:=⟨4503599627370496,-51,⟨52,.inl ⟨by decide,by decide⟩⟩,⟨by decide,by decide,.inl (by decide)⟩,by decide,by decide⟩
theorem zqu3 {c:Nat} {q:Int} (hc:Canon c q) (hq:q ≤ 971) (h1:1 ≤ q):Canon c (q - 1) ∧ floatBits .quo .f64 (rungOf c q) 4611686018427387904 = some (rungOf c (q - 1)):=by
 have h2:Canon c (q - 1):=by
  obtain ⟨a,b,d | d⟩:=hc
  ·exact ⟨a,by omega,.inl d⟩
  ·omega
 exact ⟨h2,zqqr (fvc hc hq) (fvc h2 (by omega))⟩
theorem zqxw {c:Nat} {q:Int} (hc:Canon c q):4845873199050653696 ≤ rungOf c q ↔ 1 ≤ q:=by
 obtain ⟨a,b,d⟩:=hc;unfold rungOf
 constructor <;> intro <;> omega
def wholeN (c:Nat) (q:Int):Nat:=c / 2 ^ (-q).toNat
theorem zqjz (c:Nat) (q:Int):wholeN c q ≤ c:=Nat.div_le_self _ _
theorem zqnf {c:Nat} {q:Int} (hc:Canon c q) (hq:q ≤ 0):floatToIntVal .f64 (rungOf c q) .u64 = some (wholeN c q:Int):=by
 have h1:c * 2 ^ q.toNat = c:=by rw [show q.toNat = 0 by omega]; simp
 refine zq23 hc (by omega) (zqg2 _).symm _ ?_ ?_
 ·rw [h1]; rfl
 ·have:=zqjz c q; have:=hc.1; omega
theorem zqn9 {n:Nat} (h:n < 9007199254740992):∃ d p,Canon d p ∧ p ≤ 0 ∧ SameD n 0 d p ∧ floatOfInt .f64 (n:Int) = rungOf d p:=by
 obtain ⟨d,p,h1,h2,h3⟩:=zqgo _ n 0 (Nat.le_refl _) h (by omega)
 refine ⟨d,p,h2,h3,h1,zquz ?_⟩;exact ⟨d,p,h1,h2,by omega,rfl⟩
theorem zq0e {c d:Nat} {q p:Int} (hc:Canon c q) (hd:Canon d p) (h:rungOf c q = rungOf d p):c = d ∧ q = p:=by
 obtain ⟨a1,a2,a3⟩:=hc;obtain ⟨b1,b2,b3⟩:=hd;unfold rungOf at h;omega
theorem zqtm {c:Nat} {q:Int} (hc:Canon c q) (h0:c ≠ 0) (hq:q ≤ 0) :
  (∃ n:Nat,n = wholeN c q ∧ SameD n 0 c q ∧ floatOfInt .f64 (n:Int) = rungOf c q) ∨
  (∃ z,floatOfInt .f64 (wholeN c q:Int) = z ∧ notNan z ∧ z ≠ rungOf c q ∧ z < 9223372036854775808 ∧ ∃ d p,Canon d p ∧ p ≤ 0 ∧ d ≠ 0 ∧ SameD d p c (q + 1) ∧ floatBits .mul .f64 (rungOf c q) 4611686018427387904 = some (rungOf d p)):=by
 have hw:wholeN c q < 9007199254740992:=by have:=zqjz c q; have:=hc.1; omega
 obtain ⟨d,p,k1,k2,k3,k4⟩:=zqn9 hw
 by_cases hs:SameD (wholeN c q) 0 c q
 ·have:=zqcb (k3.symm.trans hs) k1 hc;exact .inl ⟨_,rfl,hs,by rw [k4,this.1,this.2]⟩
 ·have hne:rungOf d p ≠ rungOf c q:=fun e => by
   obtain ⟨rfl,rfl⟩:=zq0e k1 hc e;exact hs k3
  have hr:=zqbp k1 (by omega:p ≤ 971)
  have hlt:q ≤ -1:=by
   by_cases e:q = 0
   ·subst e; exact absurd (by unfold wholeN; simp; exact SameD.refl _ _) hs
   ·omega
  refine .inr ⟨_,k4,(zqcm k1 (by omega)).2,hne,by omega,?_⟩
  obtain ⟨c1,c2,c3⟩:=id hc
  by_cases h52:4503599627370496 ≤ c
  ·have h2:Canon c (q + 1):=⟨c1,by omega,.inl h52⟩
   refine ⟨c,q + 1,h2,by omega,h0,SameD.refl _ _,zqhq (fvc hc (by omega)) zqpf ?_⟩
   rw [Nat.mul_one]; exact fvc h2 (by omega)
  ·have hq2:q = -1074:=by omega
   subst hq2;have h2:Canon (c * 2) (-1074):=⟨by omega,by omega,.inr rfl⟩
   have hs2:SameD (c * 2) (-1074) c (-1074 + 1):=⟨1,.inr ⟨by omega,by simp⟩⟩
   refine ⟨c * 2,-1074,h2,by omega,by omega,hs2,zqhq (fvc hc (by omega)) zqpf ?_⟩
   rw [Nat.mul_one]; exact (fvc h2 (by omega)).same hs2.symm
set_option maxRecDepth 100000
open Go.RowKit
set_option linter.unusedVariables false
def SplitPost (x c:Nat) (q:Int) (w:World) (e:Ending) (w':World):Prop:=(∃ m k:Int,IsSplit c q m k ∧ e = .returned (.tuple #[.bool (negB x),.int .u64 m,.int .i64 k])) ∧ Drawn w w'
theorem zqid {c d:Nat} {q p e:Int} (hc:Canon c q) (hq:q ≤ 971) (h0:c ≠ 0) (hd:d < 9007199254740992) (hp:-1074 ≤ p) (hp2:p ≤ 0) (hs:SameD d (p + e) c q):-1200 ≤ e ∧ e ≤ 2200:=by
 have h1:=hs.log2 h0;have h2:=zqdw hc.1;have h3:=zqdw hd;have:=hc.2.1;omega
theorem zqzo {c:Nat} {q z e:Int} (h0:0 < z) (hm:z % 2 = 0) (hs:SameD z.toNat e c q):0 < z / 2 ∧ SameD (z / 2).toNat (e + 1) c q:=by
 refine ⟨by omega,SameD.trans ⟨1,.inl ⟨by omega,by omega⟩⟩ hs⟩
set_option maxHeartbeats 4000000 in
theorem zqs8 (x c:Nat) (q:Int) (w:World) (hx:W64 x) (hk:kindI x = 1) (hc:Canon c q) (hq:q ≤ 971) (h0:c ≠ 0) (hr:rungOf c q = x % 9223372036854775808) :
  Calls Tryz.prog 227 #[.float .f64 x] w (SplitPost x c q w):=by
 have hA:=zh (zqck x w hx);obtain ⟨g1,g2,g3,g4,g5⟩:=zqdu hx hk;have hL:=zqqt hx g1 g3;have hU:=zqdz (P:=Tryz.prog) x hx;have hne:(kindI x != 1) = false:=by rw [hk]; rfl
 have hflip:negB x = true → flipN x = rungOf c q:=fun h => by
  unfold negB at h; simp only [decide_eq_true_eq] at h;unfold W64 at hx; unfold flipN;rw [if_neg (by omega)]; omega
 have hsame:negB x = false → x = rungOf c q:=fun h => by
  unfold negB at h; simp at h;omega
 have hC:=zh (And.intro hc (And.intro hq h0));generalize kindI x = K at *;have h53:notNan 4845873199050653696:=⟨by decide,by decide⟩
 have hstart:∃ y0,y0 = rungOf c q:=⟨_,rfl⟩
 unfold SplitPost;generalize hb:negB x = b at *;clear hk hr g1 g2 g3 g4 g5 hc hq h0 hstart;have hH53:=zh h53;clear h53;have hB:(b = true ∧ Hid (flipN x = rungOf c q)) ∨ (b = false ∧ Hid (x = rungOf c q)):=by
  cases b
  ·exact .inr ⟨rfl,zh (hsame rfl)⟩
  ·exact .inl ⟨rfl,zh (hflip rfl)⟩
 clear hflip hsame hb;rcases hB with ⟨rfl,hy⟩ | ⟨rfl,hy⟩
 all_goals
  generalize flipN x = fx at *;go_enter Tryz.func227,Tryz.ntmps227;go_wp2_with fail;refine (hA.out).mono ?_; rintro e w1 ⟨rfl,hd1⟩;have hd1:=zh hd1;go_wp2_with fail;have HL:=zh hL;clear hL hU hA hne;go_loop [5,6] (fun y i => ∃ k:Nat,(k:Int) ≤ max q 0 ∧ (q ≤ 0 → k = 0) ∧ i = .int .i64 k ∧ Hid (Canon c (q - k)) ∧ ∃ Y:Nat,y = .float .f64 Y ∧ Hid (Y = rungOf c (q - k))) (fun _ i => (q - intOf i).toNat)
  case atStart => exact ⟨0,by omega,fun _ => rfl,rfl,zh (by simpa using hC.out.1),_,rfl,zh (by rw [hy.out]; simp)⟩
  case round =>
   obtain ⟨k,hk1,hk2,rfl,hcan,Y,rfl,hY⟩:=hrel;have hq:=hC.out.2.1;have hbig:=zqxw hcan.out;rw [← hY.out] at hbig;have hnn:notNan Y:=by rw [hY.out]; exact (zqcm hcan.out (by omega)).2
   have hYlt:Y < 9223372036854775808:=by have:=zqbp hcan.out (by omega); rw [← hY.out] at this; omega
   have hgt:=zqo0 hnn hH53.out;have heq:=zqdj hnn hH53.out;rw [zqbd hYlt,zqbd (x:=4845873199050653696) (by omega)] at hgt heq
   by_cases hcont:1 ≤ q - k
   ·have hst:=zqu3 hcan.out (by omega) hcont
    rw [← hY.out] at hst;have hcan2:=zh hst.1;have hop:∀ t w,(binOp .quo t (.float .f64 Y) (.float .f64 4611686018427387904)).run Tryz.prog w = .ok (.float .f64 (rungOf c (q - k - 1))) w:=fun t w => run_float_arith w .quo t .f64 _ _ _ hst.2
    have hb:=hbig.2 hcont;have hYr:=zh (show rungOf c (q - k - 1) = rungOf c (q - (k + 1:Nat)) by congr 1; omega)
    have hcan3:=zh (show Canon c (q - (k + 1:Nat)) by rw [show q - ((k + 1:Nat):Int) = q - k - 1 by omega]; exact hcan2.out)
    generalize rungOf c (q - k - 1) = Y2 at *;clear hst hbig hcan hY hnn;have hge:((FloatKind.f64.format.order Y 4845873199050653696 == some .gt) = true) ∨ ((FloatKind.f64.format.order Y 4845873199050653696 == some .gt) = false ∧ (FloatKind.f64.format.order Y 4845873199050653696 == some .eq) = true):=by
     rw [hgt,heq]
     by_cases e:(Y:Int) = ((4845873199050653696:Nat):Int)
     ·exact .inr ⟨by simp; omega,by simpa using e⟩
     ·exact .inl (by simp; omega)
    clear hgt heq;rcases hge with hgt | ⟨hgt,heq⟩
    all_goals
     go_wp2_with (simp only [hop]);go_round
     case rel => exact ⟨k + 1,by omega,by omega,by go_num,hcan3,_,rfl,hYr⟩
     case measure => simp [intOf]; omega
   ·have hgt2:(FloatKind.f64.format.order Y 4845873199050653696 == some .gt) = false:=by rw [hgt]; simp; omega
    have heq2:(FloatKind.f64.format.order Y 4845873199050653696 == some .eq) = false:=by rw [heq]; simp; omega
    clear hgt heq hbig;have hrel2:Hid (SameD c (q - k + k) c q):=zh (by rw [show q - (k:Int) + k = q by omega]; exact SameD.refl _ _)
    go_wp2_with fail;clear hgt2 heq2;have hq0:q - k ≤ 0:=by omega
    have hI:=zh (And.intro hcan.out (And.intro hq0 (And.intro hC.out.2.2 hrel2.out)));have hHL:=HL.out;clear hHL hcan hrel2 hnn hcont hk1 hk2 hYlt hq hq0;generalize q - (k:Int) = p0 at *;go_loop [5,6] (fun y i => ∃ (d:Nat) (p e:Int),i = .int .i64 e ∧ Hid (Canon d p ∧ p ≤ 0 ∧ d ≠ 0 ∧ SameD d (p + e) c q) ∧ ∃ Y:Nat,y = .float .f64 Y ∧ Hid (Y = rungOf d p)) (fun _ i => (intOf i + 2000).toNat)
    case atStart => exact ⟨c,p0,k,rfl,hI,_,rfl,hY⟩
    case round =>
     clear hI hY;obtain ⟨d,p,e,rfl,hI,Y,rfl,hY⟩:=hrel;obtain ⟨i1,i2,i3,i4⟩:=hI.out;obtain ⟨b1,b2⟩:=zqid hC.out.1 hC.out.2.1 hC.out.2.2 i1.1 i1.2.1 i2 i4;have hcv:=zqnf i1 i2;have hnn:notNan Y:=by rw [hY.out]; exact (zqcm i1 (by omega)).2
     have hYlt:Y < 9223372036854775808:=by have:=zqbp i1 (show p ≤ 971 by omega); rw [← hY.out] at this; omega
     have hwl:wholeN d p < 9007199254740992:=by have:=zqjz d p; have:=i1.1; omega
     have hst:=zqtm i1 i3 i2;rw [← hY.out] at hcv hst;have hwh:=zh (show wholeN d p = wholeN d p from rfl);generalize hn:wholeN d p = n at *;have hcv2:∀ w,(convert 72 28 (.float .f64 Y)).run Tryz.prog w = .ok (.int .u64 (n:Int)) w:=fun w => run_convert_float_int w 72 28 .f64 .u64 Y n (by rw [Tryz.underlying72]; rfl) Tryz.underlying28 hcv
     rcases hst with ⟨n',rfl,hs,hfi⟩ | ⟨z,hfi,hz1,hz2,hz3,d2,p2,k1,k2,k3,k4,k5⟩
     ·have hS:=zh (show SameD n' e c q from by
       have:=(hs.add e).trans i4;rw [Int.zero_add] at this; exact this)
      have hne:(FloatKind.f64.format.order Y Y != some .eq) = false:=by rw [zqcd (zqdj hnn hnn)]; simp
      have hpos:0 < n':=by
       rcases Nat.eq_zero_or_pos n' with h | h
       ·exact absurd (hs.zero.1 h) i3
       ·exact h
      clear hwh hn hI hY i1 i2 i3 i4 hs hcv hnn hYlt;go_wp2_with (simp only [hcv2]);clear hne hfi hcv2;go_loop [7,6] (fun m i => ∃ z e:Int,m = .int .u64 z ∧ i = .int .i64 e ∧ 0 < z ∧ z < 9007199254740992 ∧ Hid (SameD z.toNat e c q)) (fun m _ => (intOf m).toNat)
      case atStart => exact ⟨n',e,rfl,rfl,by omega,by omega,by simpa using hS⟩
      case round =>
       clear hS;obtain ⟨z,e,rfl,rfl,z0,z1,hS⟩:=hrel;have hb2:-1200 ≤ e ∧ e ≤ 2200:=zqid (d:=z.toNat) (p:=0) hC.out.1 hC.out.2.1 hC.out.2.2 (by omega) (by omega) (by omega) (by rw [Int.zero_add]; exact hS.out)
       obtain ⟨b1,b2⟩:=hb2;have z2:0 ≤ z:=by omega
       by_cases hm:z % 2 = 0
       ·have hst:=zqzo z0 hm hS.out;have hS2:=zh hst.2;have hp:=hst.1;have hm2:(z % 2 == 0) = true:=by rw [hm]; rfl
        clear hst hS hm;go_wp2_with fail;go_round
        case rel => exact ⟨z / 2,e + 1,rfl,rfl,hp,by omega,hS2⟩
        case measure => simp [intOf]; omega
       ·have hm2:(z % 2 == 0) = false:=by simpa using hm
        have hE:=zh (show IsSplit c q z e from ⟨z0,by omega,hS.out,z1⟩)
        have hL:=HL.out;clear hS hm;go_wp2_with fail;go_ret3;exact ⟨⟨z,e,hE.out,rfl⟩,hd1.out⟩
     ·have hI2:=zh (And.intro k1 (And.intro k2 (And.intro k3 (show SameD d2 (p2 + (e - 1)) c q from by
       have:=k4.add (e - 1);rw [show p + 1 + (e - 1) = p + e by omega] at this
       exact this.trans i4))))
      have hop:∀ t w,(binOp .mul t (.float .f64 Y) (.float .f64 4611686018427387904)).run Tryz.prog w = .ok (.float .f64 (rungOf d2 p2)) w:=fun t w => run_float_arith w .mul t .f64 _ _ _ k5
      have hne:(FloatKind.f64.format.order Y z != some .eq) = true:=by
       rw [zqcd (zqdj hnn hz1),zqbd hYlt,zqbd hz3]; simp; omega
      have hY2:=zh (show rungOf d2 p2 = rungOf d2 p2 from rfl);generalize hrr:rungOf d2 p2 = R at *;have hY3:Hid (R = rungOf d2 p2):=zh hrr.symm;clear hrr hY2 hwh hn hI hY i1 i2 i3 i4 hcv hnn hYlt k1 k2 k3 k4 k5 hz1 hz2 hz3;go_wp2_with (first | simp only [hcv2] | simp only [hop])
      go_round
      case rel => exact ⟨d2,p2,e - 1,rfl,hI2,_,rfl,hY3⟩
      case measure => simp [intOf]; omega
set_option maxRecDepth 100000
open Go.RowKit
set_option linter.unusedVariables false
theorem IsSplit.ge {c:Nat} {q m e:Int} (h:IsSplit c q m e):q ≤ e:=by
 obtain ⟨h0,h1,⟨a,⟨g1,g2⟩ | ⟨g1,g2⟩⟩,h3⟩:=h
 ·omega
 ·cases a with
  | zero => omega
  | succ a => rw [Nat.pow_succ,← Nat.mul_assoc] at g2; omega
theorem zqi5 {c:Nat} {q z e:Int} (hc:Canon c q) (hq:q ≤ 971) (h0:c ≠ 0) (hs:SameD z.toNat e c q):e ≤ 1023:=by
 have h1:=hs.log2 h0;have h2:=zqdw hc.1;omega
set_option maxHeartbeats 4000000 in
theorem zqm0 (x:Nat) (w:World) (hx:x ≤ 9218868437227405312) :
  Calls Tryz.prog 179 #[.float .f64 x] w fun e w' => e = .returned (.int .u64 x) ∧ Drawn w w':=by
 have hw:W64 x:=by unfold W64; omega
 have hA:=zh (fun w => zqck x w hw)
 have hnan:isNaNB x = false:=by unfold isNaNB; simp; omega
 have hZ:=zqcr x hw
 by_cases hi:x = 9218868437227405312
 ·have hk:kindI x = 2:=by unfold kindI; rw [hnan,hi]; rfl
  rw [hk] at hA;clear hk hZ hnan hx;subst hi;go_enter Tryz.func179,Tryz.ntmps179;go_wp2_with fail;refine (hA.out _).mono ?_; rintro e w1 ⟨rfl,hd1⟩;go_wp2_with fail;go_ret;exact ⟨rfl,hd1⟩
 ·have hinf:isInfB x = false:=by unfold isInfB; simp; omega
  by_cases hz:x = 0
  ·subst hz;have hk:kindI 0 = 0:=by decide
   have h2:isZeroB 0 = true:=by decide
   rw [hk] at hA;rw [h2] at hZ;clear hk h2 hinf hnan hx hi;go_enter Tryz.func179,Tryz.ntmps179;go_wp2_with fail;refine (hA.out _).mono ?_; rintro e w1 ⟨rfl,hd1⟩;go_wp2_with fail;go_ret;exact ⟨rfl,hd1⟩
  ·have h2:isZeroB x = false:=by unfold isZeroB; simp; omega
   have hk:kindI x = 1:=by unfold kindI; rw [hnan,hinf,h2]; rfl
   obtain ⟨c,q,hc,hq,h0,hr⟩:=zqdg (r:=x) (by omega) (by omega)
   have HS:=zh (fun w => zqs8 x c q w hw hk hc hq h0 (by rw [hr]; omega))
   rw [hk] at hA;rw [h2] at hZ;have hC:=zh (And.intro hc (And.intro hq (And.intro h0 hr)));clear hk h2 hinf hnan hi hz hc hq h0 hr hw;go_enter Tryz.func179,Tryz.ntmps179;go_wp2_with fail;refine (hA.out _).mono ?_; rintro e w1 ⟨rfl,hd1⟩;go_wp2_with fail;refine (HS.out _).mono ?_; rintro e w2 ⟨⟨m,k,hs,rfl⟩,hd2⟩;have hd:=zh (hd1.trans hd2);have hge:=hs.ge;have hmb:=hs.2.2.2;have hm0:=hs.1;have hs1:=zh hs.2.2.1;have hcq:=hC.out.1.2.1;generalize negB x = bb at *;clear hd1 hd2 hA HS hs hZ;go_wp2_with fail;go_loop [4,5] (fun m i => ∃ z e:Int,m = .int .u64 z ∧ i = .int .i64 e ∧ 0 < z ∧ z < 9007199254740992 ∧ -1074 ≤ e ∧ Hid (SameD z.toNat e c q)) (fun _ i => (intOf i + 1074).toNat)
   case atStart => exact ⟨m,k,rfl,rfl,hm0,hmb,by omega,hs1⟩
   case round =>
    clear hs1 hmb hm0 hge hcq;obtain ⟨z,e,rfl,rfl,z0,z1,e0,hS⟩:=hrel;have e1:=zqi5 hC.out.1 hC.out.2.1 hC.out.2.2.1 hS.out
    by_cases h52:z < 4503599627370496
    ·by_cases he:-1074 < e
     ·have hS2:Hid (SameD (z * 2).toNat (e - 1) c q):=zh (SameD.trans ⟨1,.inr ⟨by omega,by omega⟩⟩ hS.out)
      clear hS;go_wp2_with fail;go_round
      case rel => exact ⟨z * 2,e - 1,rfl,rfl,by omega,by omega,by omega,hS2⟩
      case measure => simp [intOf]; omega
     ·have hE:=zqcb hS.out ⟨by omega,by omega,.inr (by omega)⟩ hC.out.1
      have hE2:Hid (z = (x:Int)):=zh (by
       have:=hC.out.2.2.2; unfold rungOf at this; omega)
      have he2:decide (-1074 < e) = false:=by simpa using he
      clear hE hS;go_wp2_with fail;go_ret;exact ⟨zqaq hE2.out,hd.out⟩
    ·have hE:=zqcb hS.out ⟨by omega,by omega,.inl (by omega)⟩ hC.out.1
     have hE2:Hid ((e + 1074) * 4503599627370496 + z = (x:Int)):=zh (by
      have:=hC.out.2.2.2; unfold rungOf at this; omega)
     have he3:e ≤ 971:=by have:=hC.out.2.1; omega
     clear hE hS;go_wp2_with fail;go_ret;exact ⟨zqaq hE2.out,hd.out⟩
set_option maxHeartbeats 1000000 in
theorem zqz9 (x:Nat) (w:World) (hx:W64 x) :
  Calls Tryz.prog 99 #[.float .f64 x] w fun e w' => e = .returned (.int .u64 (keyI x)) ∧ Drawn w w':=by
 have hA:=zh (zqck x w hx);have hB:=zh (fun w => zqdl x w hx)
 have kx:=zqdt x;have hU:=zqdz (P:=Tryz.prog) x hx;rcases zqbv hx with ⟨h1,h2⟩ | ⟨h1,h2,h3,h4,h5,h6,h7⟩ | ⟨h1,h2,h3,h4,h5,h6⟩
 ·rw [h1] at kx;rw [h2];generalize kindI x = K at *;clear h1 h2;go_enter Tryz.func99,Tryz.ntmps99;go_wp2_with fail;refine (hA.out).mono ?_; rintro e w1 ⟨rfl,hd1⟩;go_wp2_with fail;go_ret;exact ⟨rfl,hd1⟩
 ·rw [h1] at kx;rw [h6];rw [h3] at hB;have hf:flipN x = x - 9223372036854775808:=by unfold flipN; rw [if_neg (by omega)]
  rw [hf] at hU;have hR:=zh (fun w => zqm0 (x - 9223372036854775808) w (by omega))
  have hcst:((x - 9223372036854775808:Nat):Int) = (x:Int) - 9223372036854775808:=by omega
  have hb1:(0:Int) ≤ (x:Int) - 9223372036854775808:=by omega
  have hb2:(x:Int) - 9223372036854775808 ≤ 9218868437227405312:=by omega
  rw [hcst] at hR;have hE:Hid ((9223372036854775807:Int) - ((x:Int) - 9223372036854775808) = 18446744073709551615 - x):=zh (by omega)
  generalize x - 9223372036854775808 = X at *;generalize (x:Int) - 9223372036854775808 = Y at *;generalize kindI x = K at *;clear h1 h2 h3 h4 h5 h6 h7 hf hcst;go_enter Tryz.func99,Tryz.ntmps99;go_wp2_with fail;refine (hA.out).mono ?_; rintro e w1 ⟨rfl,hd1⟩;go_wp2_with fail;refine (hB.out _).mono ?_; rintro e w2 ⟨rfl,rfl⟩;go_wp2_with fail;refine (hR.out _).mono ?_; rintro e w3 ⟨rfl,hd2⟩;go_wp2_with fail;go_ret;exact ⟨zqaq hE.out,hd1.trans hd2⟩
 ·rw [h1] at kx;rw [h5];rw [h3] at hB;have hR:=zh (fun w => zqm0 x w h4)
  have hb1:(0:Int) ≤ (x:Int):=by omega
  have hb2:(x:Int) ≤ 9218868437227405312:=by omega
  generalize kindI x = K at *;clear h1 h2 h3 h4 h5 h6 hU;go_enter Tryz.func99,Tryz.ntmps99;go_wp2_with fail;refine (hA.out).mono ?_; rintro e w1 ⟨rfl,hd1⟩;go_wp2_with fail;refine (hB.out _).mono ?_; rintro e w2 ⟨rfl,rfl⟩;go_wp2_with fail;refine (hR.out _).mono ?_; rintro e w3 ⟨rfl,hd2⟩;go_wp2_with fail;go_ret;exact ⟨zqaq (Int.add_comm _ _),hd1.trans hd2⟩
end Go.Proofs.YtpgchfihedcdkaaGreatDoor
namespace Go.Proofs.YtpgchfihedcdkaaGreatDoor
set_option maxRecDepth 100000
open Go.RowKit
set_option linter.unusedVariables false
set_option maxRecDepth 100000
open Go.RowKit
set_option linter.unusedVariables false
theorem zqfg {w wr w1:World} {o:Obj} (hb:Below w.heap.size w wr) (hg:(wr.alloc o).grownBy w1 (some wr.heap.size)):Below w.heap.size w w1 :=
 (hb.alloc hb.size o).grown hg (by have:=hb.size; simp; omega) (fun k hk => by have e:wr.heap.size = k:=Option.some.inj hk; have:=hb.size; omega)
theorem zqt8 {x k:Nat} (hx:x < 18446744073709551616) (h:k < bytesN x):0 < x / 256 ^ k:=by
 have:=zqeb x hx;rcases this.2 with h0 | h0
 ·omega
 ·have h1:256 ^ k ≤ 256 ^ (bytesN x - 1):=Nat.pow_le_pow_right (by decide) (by omega)
  exact Nat.div_pos (by omega) (zqe1 k)
theorem zqpu {x k:Nat} (hx:x < 18446744073709551616) (h:bytesN x ≤ k):x / 256 ^ k = 0:=by
 have:=(zqeb x hx).1;have h1:256 ^ bytesN x ≤ 256 ^ k:=Nat.pow_le_pow_right (by decide) h
 exact Nat.div_eq_of_lt (by omega)
theorem zqt1 (x k:Nat):bigN x (k + 1) = [((x / 256 ^ k % 256:Nat):Int)] ++ bigN x k:=rfl
def slLen:Value → Nat
 | .slice _ n _ => n
 | _ => 0
set_option maxHeartbeats 4000000 in
theorem zqjm (x least:Nat) (w:World) (hx:x < 18446744073709551616) (hl:least ≤ 8):Calls Tryz.prog 98 #[.int .u64 x,.int .i64 least] w (BytesP w (bigN x (max least (bytesN x)))):=by
 obtain ⟨i0,hi,hz0,hz1,hz2⟩:=info_parts Tryz.infoU8;have hn:=zqce x hx;have HG:=zh (fun k => zqt8 (k:=k) hx)
 have HD:=zh (fun k => zqpu (k:=k) hx)
 have HL:=zh (zqcc x);have HX:=zh (show ((x:Nat):Int) = ((x / 256 ^ 0:Nat):Int) by simp)
 have HS:=zh (zqt1 x);have HN:=zh (show ∀ k,x / 256 ^ (k + 1) = x / 256 ^ k / 256 from fun k => by rw [Nat.pow_succ,Nat.div_div_eq_div_mul])
 generalize bytesN x = n at *;have HM:=zh (show max least n ≤ 8 by omega)
 go_enter Tryz.func98,Tryz.ntmps98;go_wp2_with fail;go_loopw [0,5] (fun xv ov wr => ∃ k:Nat,k ≤ max least n ∧ xv = .int .u64 ((x / 256 ^ k:Nat):Int) ∧ Hid (BOwn wr w.heap.size ov (bigN x k) ∧ Below w.heap.size w wr) ∧ slLen ov = k) (fun _ ov _ => max least n - slLen ov)
 case atStart => exact ⟨0,Nat.zero_le _,by rw [HX.out],zh ⟨own0 _ _,Below.refl _ _⟩,rfl⟩
 case round =>
  obtain ⟨k,hk,rfl,hS,hlen⟩:=hrel;obtain ⟨pa,pc,rfl⟩:=zqbe hS.out.1;simp only [HL.out] at hS hlen ⊢;have hle:(bigN x k).length ≤ 8:=by rw [HL.out]; have:=HM.out; omega
  have HLE:=zh hle;have HD0:=HD.out k;have HG0:=HG.out k;have HN0:=zh (HN.out k);have HS0:=zh (HS.out k);have hyx:x / 256 ^ k ≤ x:=Nat.div_le_self _ _;generalize x / 256 ^ k = y at *;have hw:IntKind.u64.wrap ((y:Int) / 256) = (y:Int) / 256:=by rw [IntKind.wrap_u64]; omega
  have hc:((y:Int) % 256) = ((y % 256:Nat):Int):=by omega
  have hu:IntKind.u8.wrap ((y:Int) % 256) = (y:Int) % 256:=by rw [IntKind.wrap_u8]; omega
  have Hc:=zh hc;clear hc hle
  by_cases hlt:k < max least n
  ·by_cases hy:y = 0
   ·have i1:¬ (0:Int) < (y:Int):=by omega
    have i2:(k:Int) < (least:Int):=by
     have:¬ k < n:=fun h => by have:=HG0 h; omega
     omega
    subst hy;go_wp2_with (at_builtin; refine zqak _ (by rfl) _ _ 36 rfl w.heap.size 5 i0 (.int .u8 0) 1 Tryz.underlying36 hi hz0 hz1 hz2 rfl .u8 _ _ [0] (bigN x k) rfl rfl (World.ownsRow_lit wr #[.int .u8 (0)] 1 hS.out.2.size (by unfold maxLen; omega) rfl) ((Ints.own hS.out.1).below (zqab wr _)) (by have:=HLE.out; unfold maxLen; simp; omega) (by have:=HLE.out; simp; omega) (by have:=hS.out.2.size; simp; omega) ?_; intro v' w1 hown hgrow; have HQ:=zh (And.intro hown (zqfg hS.out.2 hgrow)); obtain ⟨pv',lv',cv',rfl⟩:=zqae hown; clear hown hgrow)
    go_roundw
    case rel => exact ⟨k + 1,by omega,by rw [HN0.out]; rfl,zh ⟨by rw [HS0.out]; exact HQ.out.1,HQ.out.2⟩,by have:=zqbe HQ.out.1; obtain ⟨_,_,e⟩:=this; cases e; simp [slLen,HL.out]⟩
    case measure => obtain ⟨_,_,e⟩:=zqbe HQ.out.1; cases e; simp [slLen,HL.out]; omega
   ·have i1:(0:Int) < (y:Int):=by omega
    go_wp2_with ((at_builtin; refine zqak _ (by rfl) _ _ 36 rfl w.heap.size 5 i0 (.int .u8 0) 1 Tryz.underlying36 hi hz0 hz1 hz2 rfl .u8 _ _ [(y:Int) % 256] (bigN x k) rfl rfl (World.ownsRow_lit wr #[.int .u8 ((y:Int) % 256)] 1 hS.out.2.size (by unfold maxLen; omega) rfl) ((Ints.own hS.out.1).below (zqab wr _)) (by have:=HLE.out; unfold maxLen; simp; omega) (by have:=HLE.out; simp; omega) (by have:=hS.out.2.size; simp; omega) ?_; intro v' w1 hown hgrow; have HQ:=zh (And.intro hown (zqfg hS.out.2 hgrow)); obtain ⟨pv',lv',cv',rfl⟩:=zqae hown; clear hown hgrow))
    go_roundw
    case rel => exact ⟨k + 1,by omega,by rw [HN0.out]; push_cast; rfl,zh ⟨by rw [HS0.out,← Hc.out]; exact HQ.out.1,HQ.out.2⟩,by have:=zqbe HQ.out.1; obtain ⟨_,_,e⟩:=this; cases e; simp [slLen,HL.out]⟩
    case measure => obtain ⟨_,_,e⟩:=zqbe HQ.out.1; cases e; simp [slLen,HL.out]; omega
  ·obtain rfl:k = max least n:=by omega
   have hy:y = 0:=HD0 (by omega)
   subst hy;have i2:¬ ((max least n:Nat):Int) < (least:Int):=by omega
   go_wp2_with fail;go_ret;exact ⟨⟨_,rfl,hS.out.1⟩,hS.out.2⟩
set_option maxHeartbeats 2000000 in
theorem zqh7 (x:Nat) (w:World) (hx:x < 18446744073709551616):Calls Tryz.prog 47 #[.int .u64 x] w (BytesP w (encU x)):=by
 obtain ⟨i0,hi,hz0,hz1,hz2⟩:=info_parts Tryz.infoU8;have hn:=zqce x hx;have HN:=zh (zqjm x 0 w hx (by decide))
 rw [Nat.zero_max] at HN;have hR:=zh (show encU x = [(bytesN x:Int)] ++ bigN x (bytesN x) from rfl);have hL:=(zqcc x (bytesN x)).symm;generalize bigN x (bytesN x) = l at *;generalize bytesN x = n at *;subst hL;have hu:IntKind.u8.wrap (l.length:Int) = l.length:=by rw [IntKind.wrap_u8]; omega
 go_enter Tryz.func47,Tryz.ntmps47;go_wp2_with fail;refine (HN.out).mono ?_; rintro e wr ⟨⟨v,rfl,ho⟩,hb⟩;obtain ⟨pa,pc,rfl⟩:=zqbe ho;have hS:=zh (And.intro ho hb);have HLE:=zh hn;clear ho hb HN;go_wp2_with (at_builtin; refine zqak _ (by rfl) _ _ 36 rfl w.heap.size 5 i0 (.int .u8 0) 1 Tryz.underlying36 hi hz0 hz1 hz2 rfl .u8 _ _ [(l.length:Int)] l rfl rfl (World.ownsRow_lit wr #[.int .u8 ((l.length:Int))] 1 hS.out.2.size (by unfold maxLen; omega) rfl) ((Ints.own hS.out.1).below (zqab wr _)) (by have:=HLE.out; unfold maxLen; simp; omega) (by have:=HLE.out; simp; omega) (by have:=hS.out.2.size; simp; omega) ?_; intro v' w1 hown hgrow; have HQ:=zh (And.intro hown (zqfg hS.out.2 hgrow)); obtain ⟨pv',lv',cv',rfl⟩:=zqae hown; clear hown hgrow)
 go_ret;exact ⟨⟨_,rfl,by rw [hR.out]; exact HQ.out.1⟩,HQ.out.2⟩
theorem zq3c (x k:Nat) (w:World) (hx:W64 x) (hk:keyI x = (k:Int)):Calls Tryz.prog 49 #[.float .f64 x] w (BytesP w (encF k)):=by
 have hr:=zqhv hx;have HK:=zh (zqz9 x w hx);rw [hk] at HK hr;have hk8:=zqce k (by omega)
 have HL:=zh (fun w => zqjm k 8 w (by omega) (by decide))
 rw [Nat.max_eq_left hk8] at HL;clear hk hk8;go_enter Tryz.func49,Tryz.ntmps49;go_wp2_with fail;refine (HK.out).mono ?_; rintro e w1 ⟨rfl,hd⟩;have HD:=zh hd.below;clear hd;go_wp2_with fail;refine (HL.out _).mono ?_; rintro e w2 ⟨⟨v,rfl,ho⟩,hb⟩;have HO:=zh (zqci ho HD.out.size);have HB:=zh (zqaa HD.out hb);clear ho hb;go_wp2_with fail;go_ret;exact ⟨⟨v,rfl,HO.out⟩,HB.out⟩
set_option maxRecDepth 100000
open Go.RowKit
set_option linter.unusedVariables false
def flipL (k:Nat) (l:List Int):List Int:=(l.take k).map (fun x => 255 - x) ++ l.drop k
theorem zqn7 (k:Nat) (l:List Int):(flipL k l).length = l.length:=by simp [flipL]; omega
theorem zqme (l:List Int):flipL 0 l = l:=by simp [flipL]
theorem zqn5 (l:List Int):flipL l.length l = l.map (fun x => 255 - x):=by simp [flipL]
theorem zqmd (k:Nat) (l:List Int) (h:k < l.length):(flipL k l).getD k 0 = l.getD k 0:=by
 unfold flipL;rw [List.getD,List.getElem?_append_right (by simp; omega)]
 simp [List.getD]
 congr 2; omega
theorem zqn8 (k:Nat) (l:List Int) (h:k < l.length):(flipL k l).set k (255 - l.getD k 0) = flipL (k + 1) l:=by
 unfold flipL;rw [List.set_append_right _ _ (by simp; omega),List.take_succ_eq_append_getElem h,List.map_append,List.append_assoc]
 congr 1
 rw [List.drop_eq_getElem_cons h];have e:k - (List.map (fun x => 255 - x) (List.take k l)).length = 0:=by simp; omega
 rw [e,List.getD,List.getElem?_eq_getElem h]
 rfl
theorem zqut (y j:Nat) (hj:j < 8) (hy:y < 18446744073709551616):(255:Int) - ((y / 256 ^ j % 256:Nat):Int) = (((18446744073709551615 - y) / 256 ^ j % 256:Nat):Int):=by
 have h:j = 0 ∨ j = 1 ∨ j = 2 ∨ j = 3 ∨ j = 4 ∨ j = 5 ∨ j = 6 ∨ j = 7:=by omega
 rcases h with rfl | rfl | rfl | rfl | rfl | rfl | rfl | rfl <;> simp only [show (256:Nat) ^ 0 = 1 by rfl,show (256:Nat) ^ 1 = 256 by rfl,show (256:Nat) ^ 2 = 65536 by rfl,show (256:Nat) ^ 3 = 16777216 by rfl,show (256:Nat) ^ 4 = 4294967296 by rfl,show (256:Nat) ^ 5 = 1099511627776 by rfl,show (256:Nat) ^ 6 = 281474976710656 by rfl,show (256:Nat) ^ 7 = 72057594037927936 by rfl] <;> omega
theorem zqn6 (y:Nat) (hy:y < 18446744073709551616):∀ n,n ≤ 8 → (bigN y n).map (fun x => 255 - x) = bigN (18446744073709551615 - y) n
 | 0,_ => rfl
 | n + 1,h => by
  rw [bigN,bigN,List.map_cons,zqn6 y hy n (by omega),zqut y n (by omega) hy]
theorem zqqi {l:List Int} (h:Bt l) (k:Nat):0 ≤ l.getD k 0 ∧ l.getD k 0 ≤ 255:=h.getD (by decide) (by decide) k
set_option maxHeartbeats 4000000 in
theorem zq3e (x:Int) (w:World) (h0:0 ≤ x) (h1:x ≤ 9223372036854775807):Calls Tryz.prog 48 #[.int .i64 x] w (BytesP w (encI x)):=by
 have hu64:IntKind.u64.wrap x = (x.toNat:Int):=by rw [IntKind.wrap_u64]; omega
 have hX:x.toNat < 18446744073709551616:=by omega
 have hR:=zh (show encI x = (9 + bytesN x.toNat:Int) :: bigN x.toNat (bytesN x.toNat) by unfold encI; rw [if_pos h0])
 have hn:=zqce x.toNat hX;have HU:=zh (zqh7 x.toNat w hX);have hE:encU x.toNat = (bytesN x.toNat:Int) :: bigN x.toNat (bytesN x.toNat):=rfl;rw [hE] at HU;clear hE;generalize bytesN x.toNat = n at *;generalize bigN x.toNat n = l at *;generalize x.toNat = X at *;have hu:IntKind.u8.wrap ((n:Int) + 9) = n + 9:=by rw [IntKind.wrap_u8]; omega
 go_enter Tryz.func48,Tryz.ntmps48;go_wp2_with fail;refine (HU.out).mono ?_; rintro e w1 ⟨⟨v,rfl,ho⟩,hb⟩;obtain ⟨g,cap,rfl,hg,hg2⟩:=zqdy ho (by simp)
 have hc:=zqbr ho (j:=0) (by simp)
 rw [List.getD_cons_zero] at hc;have hs:=zqdb ho 0 ((n:Int) + 9);rw [List.set_cons_zero] at hs;have HQ:=zh (And.intro hs.1 (hb.grown hs.2 hb.size (fun k hk => by cases hk; exact hg)))
 have hcc:=hc.1;have hcf:=hc.2;have e0:((((n:Int) :: l).length:Nat):Int) = (l.length:Int) + 1:=by simp
 simp only [List.length_cons] at HQ ⊢;clear ho hb hs hc;go_wp2_with fail;go_ret;refine ⟨⟨_,rfl,?_⟩,HQ.out.2⟩;rw [hR.out,Int.add_comm 9];exact HQ.out.1
set_option maxHeartbeats 8000000 in
theorem zq3d (x:Int) (w:World) (h0:-9223372036854775808 ≤ x) (h1:x < 0):Calls Tryz.prog 48 #[.int .i64 x] w (BytesP w (encI x)):=by
 obtain ⟨i0,hi,hz0,hz1,hz2⟩:=info_parts Tryz.infoU8;have hw:IntKind.i64.wrap (-1 - x) = -1 - x:=IntWalk.i64_in _ (by omega)
 have hu64:IntKind.u64.wrap (-1 - x) = ((-1 - x).toNat:Int):=by rw [IntKind.wrap_u64]; omega
 have hX:(x % 18446744073709551616).toNat = 18446744073709551615 - (-1 - x).toNat:=by omega
 have hY:(-1 - x).toNat < 18446744073709551616:=by omega
 have hn:=zqce (-1 - x).toNat hY;have hF:=zqn6 (-1 - x).toNat hY (bytesN (-1 - x).toNat) hn;have hR:encI x = (8 - bytesN (-1 - x).toNat:Int) :: (bigN (-1 - x).toNat (bytesN (-1 - x).toNat)).map (fun x => 255 - x):=by unfold encI; rw [if_neg (by omega),hX,← hF]
 have HH:=zh (zqjm (-1 - x).toNat 0 w hY (by decide))
 rw [Nat.zero_max] at HH;have hL:=(zqcc (-1 - x).toNat (bytesN (-1 - x).toNat)).symm;have HBt:=zh (zqqi (zqqg (-1 - x).toNat (bytesN (-1 - x).toNat)));clear hX hF;generalize bigN (-1 - x).toNat (bytesN (-1 - x).toNat) = l at *;generalize bytesN (-1 - x).toNat = n at *;generalize (-1 - x).toNat = Y at *;subst hL;have hR:=zh hR;have hu:IntKind.u8.wrap (8 - (l.length:Int)) = 8 - l.length:=by rw [IntKind.wrap_u8]; omega
 have hs8:IntKind.i64.wrap (8 - (l.length:Int)) = 8 - l.length:=IntWalk.i64_in _ (by omega)
 go_enter Tryz.func48,Tryz.ntmps48;go_wp2_with fail;refine (HH.out).mono ?_; rintro e w1 ⟨⟨v,rfl,ho⟩,hb⟩;have HO:=zh ho;have HB:=zh hb;obtain ⟨pa,pc,rfl⟩:=zqbe ho;have hf:pa = none ∨ ∃ g,pa = some ⟨g,0,none⟩ ∧ w.heap.size ≤ g:=by
  rcases ho.2 with ⟨e,-⟩ | ⟨g,cap,cur,e,h2,h3⟩
  ·left; injection e
  ·right; injection e with e1; exact ⟨g,e1,h2⟩
 clear ho hb;have HF:=zh hf;clear hf;go_wp2_with fail;go_loopw [5] (fun i wr => ∃ k:Nat,k ≤ l.length ∧ i = .int .i64 k ∧ Hid (wr.ownsRow w.heap.size 5 1 (.slice pa l.length pc) l.length ((flipL k l).map (Value.int .u8)) ∧ Below w.heap.size w wr)) (fun i _ => l.length - (intOf i).toNat)
 case atStart => exact ⟨0,Nat.zero_le _,rfl,zh ⟨by rw [zqme]; exact HO.out,HB.out⟩⟩
 case round =>
  obtain ⟨k,hk,rfl,hS⟩:=hrel;clear HO HB
  by_cases hlt:k < l.length
  ·have i1:(k:Int) < (l.length:Int):=by omega
   have hno:pa ≠ none:=by
    rintro rfl;rcases hS.out.1.2 with ⟨-,e⟩ | ⟨g,cap,cur,e,-⟩
    ·omega
    ·cases e
   obtain ⟨g,rfl,hg⟩:∃ g,pa = some ⟨g,0,none⟩ ∧ w.heap.size ≤ g:=by
    rcases HF.out with h | h
    ·exact absurd h hno
    ·exact h
   have hc:=zqbr hS.out.1 (j:=k) (by rw [zqn7]; exact hlt)
   rw [zqmd k l hlt] at hc;have hs:=zqdb hS.out.1 k (255 - l.getD k 0);rw [zqn8 k l hlt] at hs;have HQ:=zh (And.intro hs.1 (hS.out.2.grown hs.2 hS.out.2.size (fun k hk => by cases hk; exact hg)))
   obtain ⟨q1,q2⟩:=HBt.out k;have hcc:=hc.1;have hcf:=hc.2;clear hc hs hno hS HF;generalize l.getD k 0 = z at *;have hu2:IntKind.u8.wrap (255 - z) = 255 - z:=by rw [IntKind.wrap_u8]; omega
   go_wp2_with fail;go_roundw
   case rel => exact ⟨k + 1,by omega,by go_num,HQ⟩
   case measure => simp [intOf]; omega
  ·obtain rfl:k = l.length:=by omega
   have i1:¬ ((l.length:Nat):Int) < (l.length:Nat):=by omega
   have hP:=hS.out.1;rw [zqn5] at hP;have hP:=zh (And.intro (show BOwn _ w.heap.size (.slice pa l.length pc) (l.map fun x => 255 - x) by unfold BOwn; rw [List.length_map]; exact hP) hS.out.2)
   have HI:=zh (show Ints .u8 _ (.slice pa l.length pc) (l.map fun x => 255 - x) from Ints.own hP.out.1)
   clear hS HF;have HLE:=zh (show (l.map fun x => 255 - x).length ≤ 8 by rw [List.length_map]; exact hn)
   generalize (l.map fun x => 255 - x) = l' at *
   go_wp2_with ((at_builtin; refine zqak _ (by rfl) _ _ 36 rfl w.heap.size 5 i0 (.int .u8 0) 1 Tryz.underlying36 hi hz0 hz1 hz2 rfl .u8 _ _ [8 - (l.length:Int)] l' rfl rfl (World.ownsRow_lit _ #[.int .u8 (8 - (l.length:Int))] 1 hP.out.2.size (by unfold maxLen; omega) rfl) (HI.out.below (zqab _ _)) (by have:=HLE.out; unfold maxLen; simp; omega) (by have:=HLE.out; simp; omega) (by have:=hP.out.2.size; simp; omega) ?_; intro v' w1 hown hgrow; have HQ:=zh (And.intro hown (zqfg hP.out.2 hgrow)); obtain ⟨pv',lv',cv',rfl⟩:=zqae hown; clear hown hgrow))
   go_ret;exact ⟨⟨_,rfl,HQ.out.1⟩,HQ.out.2⟩
theorem zqh6 (x:Int) (w:World) (h0:-9223372036854775808 ≤ x) (h1:x ≤ 9223372036854775807):Calls Tryz.prog 48 #[.int .i64 x] w (BytesP w (encI x)):=by
 by_cases h:0 ≤ x
 ·exact zq3e x w h h1
 ·exact zq3d x w h0 (by omega)
end Go.Proofs.YtpgchfihedcdkaaGreatDoor
