/- Contracts that the law leans on: Flof Codeb Floi Flok Exi. -/
import Derived.Laws.FloatArith
import Derived.WalkLawsBesides
import Derived.Laws.Externs
import Derived.Laws.BitsAllLaws
import Derived.Lib.Hide
import Derived.Shelf.Spec.TrailingZeros
import Derived.Laws.Bits64b
import Derived.Lib.BitFns
import Derived.Lib.Small
import Derived.Lib.Strings
import Derived.Lib.Slices
import Derived.Lib.Walk
import Derived.Deep.QuietTactic
import Derived.BigQuiet
import Derived.WalkKit
import Derived.WalkSpells
import Derived.WalkSmall
import Derived.OwnWalk
import Derived.Laws.Bits64
import Derived.Deep.Draws
import Derived.Deep.RegionHeld3
import Derived.Deep.DeepCutAuto
import Derived.Deep.RegionLawGrows
import Derived.Lib.ItoaNum
import Derived.Deep.AppendLies
import Derived.RegionTactic
import Derived.Deep.RegionWith
import Derived.Outline
import Derived.Deep.LoopGhost
import Derived.ChangeAlike
import Derived.Laws.IdiomStrings
import Derived.ProofKit
import Derived.LaidMore
import Derived.OpenShut
import Derived.Stop.Joined
import Derived.Lib.LaidTab
import Derived.Deep.RegionLaw
import Derived.Deep.CutBlock
import Derived.Test.YtmnbljijnbhghaaGreatDoorProg
import Derived.Test.YtmnbljijnbhghaaGreatDoorRows
import Derived.Test.YtmnbljijnbhghaaGreatDoorPt02
import Derived.Test.YtmnbljijnbhghaaGreatDoorPt03
import Derived.Test.YtmnbljijnbhghaaGreatDoorPt04
import Derived.Test.YtmnbljijnbhghaaGreatDoorPt05
import Derived.Test.YtmnbljijnbhghaaGreatDoorPt06
import Derived.Test.YtmnbljijnbhghaaGreatDoorPt07
import Derived.Test.YtmnbljijnbhghaaGreatDoorPt10
import Derived.Test.YtmnbljijnbhghaaGreatDoorPt11
import Derived.Test.YtmnbljijnbhghaaGreatDoorPt12
import Derived.Test.YtmnbljijnbhghaaGreatDoorPt13
import Derived.Test.YtmnbljijnbhghaaGreatDoorPt14
import Derived.Test.YtmnbljijnbhghaaGreatDoorPt15
namespace Go.Proofs.YtmnbljijnbhghaaGreatDoor
section
open Ieee
open Ieee
theorem zxcd (s:Bool) {m M:Nat} (i:Int) (h:m.log2 ≤ 52) (hM:M = 106 - m.log2):Datum.quotient 54 (.number s m i) (.number false 4503599627370496 (-51)) = some (.number s (m * 2 ^ (M - 51)) (i + 51 - M - 1)):=by
 have e1:(4503599627370496:Nat).log2 = 52:=by decide +kernel
 unfold Datum.quotient;simp only [e1];rw [if_neg (by decide)]
 rw [show 54 + 52 - m.log2 = M by omega]
 obtain ⟨N,hN⟩:∃ N,M = 52 + N:=⟨M - 52,by omega⟩
 have e3:m <<< M = m * 2 ^ N * 4503599627370496:=by
  have e4:(2:Nat) ^ 52 = 4503599627370496:=by decide
  rw [hN,Nat.shiftLeft_eq,Nat.pow_add,e4,← Nat.mul_assoc,Nat.mul_assoc,Nat.mul_comm 4503599627370496,← Nat.mul_assoc]
 rw [e3,Nat.mul_div_cancel _ (by decide),Nat.mul_mod_left]
 have e4:((0:Nat) != 0).toNat = 0:=by decide
 rw [e4,Nat.add_zero,Bool.xor_false,show M - 51 = N + 1 by omega,Nat.pow_succ,Nat.mul_comm 2,Nat.mul_assoc]
 congr 2
theorem zxbi {x y m n:Nat} {s t:Bool} {i j:Int} (hx:Ieee.double.read x = .number s m i) (hy:Ieee.double.read y = .number t n j):Ieee.double.div x y = ((Datum.number s m i).quotient 54 (.number t n j)).map Ieee.double.write:=by
 unfold Format.div;rw [hx,hy]; rfl
theorem zxb2:Ieee.double.read 4611686018427387904 = .number false 4503599627370496 (-51):=by decide +kernel
theorem zxbb (x y:Nat):floatBits .quo .f64 x y = Ieee.double.div x y:=rfl
theorem zxb8 {s:Bool} {x r c:Nat} {q:Int} (hx:FV s x c q) (hr:FV s r c (q - 1)):floatBits .quo .f64 x 4611686018427387904 = some r:=by
 obtain ⟨m,i,h1,k1,-,-,h2⟩:=hx.read;have hm:m.log2 ≤ 52:=by
  by_cases h0:m = 0
  ·subst h0; simp
  ·have:=(Nat.log2_lt h0 (k:=53)).2 k1.1;omega
 rw [zxbb,zxbi h2 zxb2,zxcd s i hm rfl];simp only [Option.map_some,Format.write];refine congrArg some (hr.nearest ?_);have h3:=SameD.mul h1.symm (SameD.refl 1 (-1));rw [Nat.mul_one,Nat.mul_one] at h3;refine SameD.trans ⟨106 - m.log2 - 51,.inr ⟨?_,rfl⟩⟩ h3;omega
theorem zxcg {n r:Nat} (hr:FV false r n 0):floatOfInt .f64 (n:Int) = r:=by
 show Ieee.double.write (.number (decide ((n:Int) < 0)) (n:Int).natAbs 0) = r
 have:decide ((n:Int) < 0) = false:=by simp
 rw [this];exact hr.nearest (SameD.refl _ _)
end
set_option maxRecDepth 100000
open Go.RowKit
set_option linter.unusedVariables false
set_option maxRecDepth 100000
open Go.RowKit
set_option linter.unusedVariables false
set_option maxRecDepth 100000
open Go.RowKit
set_option linter.unusedVariables false
set_option maxRecDepth 100000
open Go.RowKit
set_option linter.unusedVariables false
end Go.Proofs.YtmnbljijnbhghaaGreatDoor
namespace Go.Proofs.YtmnbljijnbhghaaGreatDoor
set_option maxRecDepth 100000
set_option linter.unusedVariables false
theorem Bt.head {c:Int} {l:List Int} (h:Bt (c :: l)):0 ≤ c ∧ c ≤ 255:=h c (by simp)
theorem Bt.tail {c:Int} {l:List Int} (h:Bt (c :: l)):Bt l:=fun x hx => h x (by simp [hx])
set_option maxRecDepth 100000
open Go.RowKit
set_option linter.unusedVariables false
section
variable {P : Program} (w : World)
end
end Go.Proofs.YtmnbljijnbhghaaGreatDoor
namespace Go.Proofs.YtmnbljijnbhghaaGreatDoor
set_option maxRecDepth 100000
open Go.RowKit
set_option linter.unusedVariables false
theorem zxbr:FV false 4611686018427387904 1 1:=⟨4503599627370496,-51,⟨52,.inl ⟨by decide,by decide⟩⟩,⟨by decide,by decide,.inl (by decide)⟩,by decide,by decide⟩
theorem zxbl {c:Nat} {q:Int} (hc:Canon c q) (hq:q ≤ 971) (h1:1 ≤ q):Canon c (q - 1) ∧ floatBits .quo .f64 (rungOf c q) 4611686018427387904 = some (rungOf c (q - 1)):=by
 have h2:Canon c (q - 1):=by
  obtain ⟨a,b,d | d⟩:=hc
  ·exact ⟨a,by omega,.inl d⟩
  ·omega
 exact ⟨h2,zxb8 (fvc hc hq) (fvc h2 (by omega))⟩
theorem zxbt {c:Nat} {q:Int} (hc:Canon c q):4845873199050653696 ≤ rungOf c q ↔ 1 ≤ q:=by
 obtain ⟨a,b,d⟩:=hc;unfold rungOf
 constructor <;> intro <;> omega
theorem zxbv {n:Nat} (h:n < 9007199254740992):∃ d p,Canon d p ∧ p ≤ 0 ∧ SameD n 0 d p ∧ floatOfInt .f64 (n:Int) = rungOf d p:=by
 obtain ⟨d,p,h1,h2,h3⟩:=zqmm _ n 0 (Nat.le_refl _) h (by omega)
 refine ⟨d,p,h2,h3,h1,zxcg ?_⟩;exact ⟨d,p,h1,h2,by omega,rfl⟩
theorem zxb5 {c d:Nat} {q p:Int} (hc:Canon c q) (hd:Canon d p) (h:rungOf c q = rungOf d p):c = d ∧ q = p:=by
 obtain ⟨a1,a2,a3⟩:=hc;obtain ⟨b1,b2,b3⟩:=hd;unfold rungOf at h;omega
theorem zxbh {c:Nat} {q:Int} (hc:Canon c q) (h0:c ≠ 0) (hq:q ≤ 0) :
  (∃ n:Nat,n = wholeN c q ∧ SameD n 0 c q ∧ floatOfInt .f64 (n:Int) = rungOf c q) ∨
  (∃ z,floatOfInt .f64 (wholeN c q:Int) = z ∧ notNan z ∧ z ≠ rungOf c q ∧ z < 9223372036854775808 ∧ ∃ d p,Canon d p ∧ p ≤ 0 ∧ d ≠ 0 ∧ SameD d p c (q + 1) ∧ floatBits .mul .f64 (rungOf c q) 4611686018427387904 = some (rungOf d p)):=by
 have hw:wholeN c q < 9007199254740992:=by have:=zqx0 c q; have:=hc.1; omega
 obtain ⟨d,p,k1,k2,k3,k4⟩:=zxbv hw
 by_cases hs:SameD (wholeN c q) 0 c q
 ·have:=zqhi (k3.symm.trans hs) k1 hc;exact .inl ⟨_,rfl,hs,by rw [k4,this.1,this.2]⟩
 ·have hne:rungOf d p ≠ rungOf c q:=fun e => by
   obtain ⟨rfl,rfl⟩:=zxb5 k1 hc e;exact hs k3
  have hr:=zqb1 k1 (by omega:p ≤ 971)
  have hlt:q ≤ -1:=by
   by_cases e:q = 0
   ·subst e; exact absurd (by unfold wholeN; simp; exact SameD.refl _ _) hs
   ·omega
  refine .inr ⟨_,k4,(zqig k1 (by omega)).2,hne,by omega,?_⟩
  obtain ⟨c1,c2,c3⟩:=id hc
  by_cases h52:4503599627370496 ≤ c
  ·have h2:Canon c (q + 1):=⟨c1,by omega,.inl h52⟩
   refine ⟨c,q + 1,h2,by omega,h0,SameD.refl _ _,zqs3 (fvc hc (by omega)) zxbr ?_⟩
   rw [Nat.mul_one]; exact fvc h2 (by omega)
  ·have hq2:q = -1074:=by omega
   subst hq2;have h2:Canon (c * 2) (-1074):=⟨by omega,by omega,.inr rfl⟩
   have hs2:SameD (c * 2) (-1074) c (-1074 + 1):=⟨1,.inr ⟨by omega,by simp⟩⟩
   refine ⟨c * 2,-1074,h2,by omega,by omega,hs2,zqs3 (fvc hc (by omega)) zxbr ?_⟩
   rw [Nat.mul_one]; exact (fvc h2 (by omega)).same hs2.symm
set_option maxRecDepth 100000
open Go.RowKit
set_option linter.unusedVariables false
theorem zxaj {c d:Nat} {q p e:Int} (hc:Canon c q) (hq:q ≤ 971) (h0:c ≠ 0) (hd:d < 9007199254740992) (hp:-1074 ≤ p) (hp2:p ≤ 0) (hs:SameD d (p + e) c q):-1200 ≤ e ∧ e ≤ 2200:=by
 have h1:=hs.log2 h0;have h2:=zqys hc.1;have h3:=zqys hd;have:=hc.2.1;omega
theorem zxby {c:Nat} {q z e:Int} (h0:0 < z) (hm:z % 2 = 0) (hs:SameD z.toNat e c q):0 < z / 2 ∧ SameD (z / 2).toNat (e + 1) c q:=by
 refine ⟨by omega,SameD.trans ⟨1,.inl ⟨by omega,by omega⟩⟩ hs⟩
set_option maxHeartbeats 4000000 in
theorem zxbf (x c:Nat) (q:Int) (w:World) (hx:W64 x) (hk:kindI x = 1) (hc:Canon c q) (hq:q ≤ 971) (h0:c ≠ 0) (hr:rungOf c q = x % 9223372036854775808) :
  Calls Tryz.prog 184 #[.float .f64 x] w (SplitPost x c q w):=by
 have hA:=zh (zqex x w hx);obtain ⟨g1,g2,g3,g4,g5⟩:=zqd7 hx hk;have hL:=zqyu hx g1 g3;have hU:=zqzb (P:=Tryz.prog) x hx;have hne:(kindI x != 1) = false:=by rw [hk]; rfl
 have hflip:negB x = true → flipN x = rungOf c q:=fun h => by
  unfold negB at h; simp only [decide_eq_true_eq] at h;unfold W64 at hx; unfold flipN;rw [if_neg (by omega)]; omega
 have hsame:negB x = false → x = rungOf c q:=fun h => by
  unfold negB at h; simp at h;omega
 have hC:=zh (And.intro hc (And.intro hq h0));generalize kindI x = K at *;have h53:notNan 4845873199050653696:=⟨by decide,by decide⟩
 have hstart:∃ y0,y0 = rungOf c q:=⟨_,rfl⟩
 unfold SplitPost;generalize hb:negB x = b at *;clear hk hr g1 g2 g3 g4 g5 hc hq h0 hstart;have hH53:=zh h53;clear h53;have hB:(b = true ∧ Hid (flipN x = rungOf c q)) ∨ (b = false ∧ Hid (x = rungOf c q)):=by
  cases b
  ·exact .inr ⟨rfl,zh (hsame rfl)⟩
  ·exact .inl ⟨rfl,zh (hflip rfl)⟩
 clear hflip hsame hb;rcases hB with ⟨rfl,hy⟩ | ⟨rfl,hy⟩
 all_goals
  generalize flipN x = fx at *;go_enter Tryz.func184,Tryz.ntmps184;go_wp2_with fail;refine (hA.out).mono ?_; rintro e w1 ⟨rfl,hd1⟩;have hd1:=zh hd1;go_wp2_with fail;have HL:=zh hL;clear hL hU hA hne;go_loop [5,6] (fun y i => ∃ k:Nat,(k:Int) ≤ max q 0 ∧ (q ≤ 0 → k = 0) ∧ i = .int .i64 k ∧ Hid (Canon c (q - k)) ∧ ∃ Y:Nat,y = .float .f64 Y ∧ Hid (Y = rungOf c (q - k))) (fun _ i => (q - intOf i).toNat)
  case atStart => exact ⟨0,by omega,fun _ => rfl,rfl,zh (by simpa using hC.out.1),_,rfl,zh (by rw [hy.out]; simp)⟩
  case round =>
   obtain ⟨k,hk1,hk2,rfl,hcan,Y,rfl,hY⟩:=hrel;have hq:=hC.out.2.1;have hbig:=zxbt hcan.out;rw [← hY.out] at hbig;have hnn:notNan Y:=by rw [hY.out]; exact (zqig hcan.out (by omega)).2
   have hYlt:Y < 9223372036854775808:=by have:=zqb1 hcan.out (by omega); rw [← hY.out] at this; omega
   have hgt:=zqtz hnn hH53.out;have heq:=zqfd hnn hH53.out;rw [zqbg hYlt,zqbg (x:=4845873199050653696) (by omega)] at hgt heq
   by_cases hcont:1 ≤ q - k
   ·have hst:=zxbl hcan.out (by omega) hcont
    rw [← hY.out] at hst;have hcan2:=zh hst.1;have hop:∀ t w,(binOp .quo t (.float .f64 Y) (.float .f64 4611686018427387904)).run Tryz.prog w = .ok (.float .f64 (rungOf c (q - k - 1))) w:=fun t w => run_float_arith w .quo t .f64 _ _ _ hst.2
    have hb:=hbig.2 hcont;have hYr:=zh (show rungOf c (q - k - 1) = rungOf c (q - (k + 1:Nat)) by congr 1; omega)
    have hcan3:=zh (show Canon c (q - (k + 1:Nat)) by rw [show q - ((k + 1:Nat):Int) = q - k - 1 by omega]; exact hcan2.out)
    generalize rungOf c (q - k - 1) = Y2 at *;clear hst hbig hcan hY hnn;have hge:((FloatKind.f64.format.order Y 4845873199050653696 == some .gt) = true) ∨ ((FloatKind.f64.format.order Y 4845873199050653696 == some .gt) = false ∧ (FloatKind.f64.format.order Y 4845873199050653696 == some .eq) = true):=by
     rw [hgt,heq]
     by_cases e:(Y:Int) = ((4845873199050653696:Nat):Int)
     ·exact .inr ⟨by simp; omega,by simpa using e⟩
     ·exact .inl (by simp; omega)
    clear hgt heq;rcases hge with hgt | ⟨hgt,heq⟩
    all_goals
     go_wp2_with (simp only [hop]);go_round
     case rel => exact ⟨k + 1,by omega,by omega,by go_num,hcan3,_,rfl,hYr⟩
     case measure => simp [intOf]; omega
   ·have hgt2:(FloatKind.f64.format.order Y 4845873199050653696 == some .gt) = false:=by rw [hgt]; simp; omega
    have heq2:(FloatKind.f64.format.order Y 4845873199050653696 == some .eq) = false:=by rw [heq]; simp; omega
    clear hgt heq hbig;have hrel2:Hid (SameD c (q - k + k) c q):=zh (by rw [show q - (k:Int) + k = q by omega]; exact SameD.refl _ _)
    go_wp2_with fail;clear hgt2 heq2;have hq0:q - k ≤ 0:=by omega
    have hI:=zh (And.intro hcan.out (And.intro hq0 (And.intro hC.out.2.2 hrel2.out)));have hHL:=HL.out;clear hHL hcan hrel2 hnn hcont hk1 hk2 hYlt hq hq0;generalize q - (k:Int) = p0 at *;go_loop [5,6] (fun y i => ∃ (d:Nat) (p e:Int),i = .int .i64 e ∧ Hid (Canon d p ∧ p ≤ 0 ∧ d ≠ 0 ∧ SameD d (p + e) c q) ∧ ∃ Y:Nat,y = .float .f64 Y ∧ Hid (Y = rungOf d p)) (fun _ i => (intOf i + 2000).toNat)
    case atStart => exact ⟨c,p0,k,rfl,hI,_,rfl,hY⟩
    case round =>
     clear hI hY;obtain ⟨d,p,e,rfl,hI,Y,rfl,hY⟩:=hrel;obtain ⟨i1,i2,i3,i4⟩:=hI.out;obtain ⟨b1,b2⟩:=zxaj hC.out.1 hC.out.2.1 hC.out.2.2 i1.1 i1.2.1 i2 i4;have hcv:=zqvb i1 i2;have hnn:notNan Y:=by rw [hY.out]; exact (zqig i1 (by omega)).2
     have hYlt:Y < 9223372036854775808:=by have:=zqb1 i1 (show p ≤ 971 by omega); rw [← hY.out] at this; omega
     have hwl:wholeN d p < 9007199254740992:=by have:=zqx0 d p; have:=i1.1; omega
     have hst:=zxbh i1 i3 i2;rw [← hY.out] at hcv hst;have hwh:=zh (show wholeN d p = wholeN d p from rfl);generalize hn:wholeN d p = n at *;have hcv2:∀ w,(convert 88 34 (.float .f64 Y)).run Tryz.prog w = .ok (.int .u64 (n:Int)) w:=fun w => run_convert_float_int w 88 34 .f64 .u64 Y n (by rw [Tryz.underlying88]; rfl) Tryz.underlying34 hcv
     rcases hst with ⟨n',rfl,hs,hfi⟩ | ⟨z,hfi,hz1,hz2,hz3,d2,p2,k1,k2,k3,k4,k5⟩
     ·have hS:=zh (show SameD n' e c q from by
       have:=(hs.add e).trans i4;rw [Int.zero_add] at this; exact this)
      have hne:(FloatKind.f64.format.order Y Y != some .eq) = false:=by rw [zqdb (zqfd hnn hnn)]; simp
      have hpos:0 < n':=by
       rcases Nat.eq_zero_or_pos n' with h | h
       ·exact absurd (hs.zero.1 h) i3
       ·exact h
      clear hwh hn hI hY i1 i2 i3 i4 hs hcv hnn hYlt;go_wp2_with (simp only [hcv2]);clear hne hfi hcv2;go_loop [7,6] (fun m i => ∃ z e:Int,m = .int .u64 z ∧ i = .int .i64 e ∧ 0 < z ∧ z < 9007199254740992 ∧ Hid (SameD z.toNat e c q)) (fun m _ => (intOf m).toNat)
      case atStart => exact ⟨n',e,rfl,rfl,by omega,by omega,by simpa using hS⟩
      case round =>
       clear hS;obtain ⟨z,e,rfl,rfl,z0,z1,hS⟩:=hrel;have hb2:-1200 ≤ e ∧ e ≤ 2200:=zxaj (d:=z.toNat) (p:=0) hC.out.1 hC.out.2.1 hC.out.2.2 (by omega) (by omega) (by omega) (by rw [Int.zero_add]; exact hS.out)
       obtain ⟨b1,b2⟩:=hb2;have z2:0 ≤ z:=by omega
       by_cases hm:z % 2 = 0
       ·have hst:=zxby z0 hm hS.out;have hS2:=zh hst.2;have hp:=hst.1;have hm2:(z % 2 == 0) = true:=by rw [hm]; rfl
        clear hst hS hm;go_wp2_with fail;go_round
        case rel => exact ⟨z / 2,e + 1,rfl,rfl,hp,by omega,hS2⟩
        case measure => simp [intOf]; omega
       ·have hm2:(z % 2 == 0) = false:=by simpa using hm
        have hE:=zh (show IsSplit c q z e from ⟨z0,by omega,hS.out,z1⟩)
        have hL:=HL.out;clear hS hm;go_wp2_with fail;go_ret3;exact ⟨⟨z,e,hE.out,rfl⟩,hd1.out⟩
     ·have hI2:=zh (And.intro k1 (And.intro k2 (And.intro k3 (show SameD d2 (p2 + (e - 1)) c q from by
       have:=k4.add (e - 1);rw [show p + 1 + (e - 1) = p + e by omega] at this
       exact this.trans i4))))
      have hop:∀ t w,(binOp .mul t (.float .f64 Y) (.float .f64 4611686018427387904)).run Tryz.prog w = .ok (.float .f64 (rungOf d2 p2)) w:=fun t w => run_float_arith w .mul t .f64 _ _ _ k5
      have hne:(FloatKind.f64.format.order Y z != some .eq) = true:=by
       rw [zqdb (zqfd hnn hz1),zqbg hYlt,zqbg hz3]; simp; omega
      have hY2:=zh (show rungOf d2 p2 = rungOf d2 p2 from rfl);generalize hrr:rungOf d2 p2 = R at *;have hY3:Hid (R = rungOf d2 p2):=zh hrr.symm;clear hrr hY2 hwh hn hI hY i1 i2 i3 i4 hcv hnn hYlt k1 k2 k3 k4 k5 hz1 hz2 hz3;go_wp2_with (first | simp only [hcv2] | simp only [hop])
      go_round
      case rel => exact ⟨d2,p2,e - 1,rfl,hI2,_,rfl,hY3⟩
      case measure => simp [intOf]; omega
set_option maxRecDepth 100000
open Go.RowKit
set_option linter.unusedVariables false
end Go.Proofs.YtmnbljijnbhghaaGreatDoor
namespace Go.Proofs.YtmnbljijnbhghaaGreatDoor
set_option maxRecDepth 100000
open Go.RowKit
set_option linter.unusedVariables false
theorem zxaa (x:Nat) (w:World) (hx:W64 x) (hk:kindI x ≠ 1) :
  Calls Tryz.prog 184 #[.float .f64 x] w fun e w' => e = .returned (.tuple #[.bool (belowB x),.int .u64 0,.int .i64 0]) ∧ Drawn w w':=by
 have hA:=zh (fun w => zqex x w hx)
 have hS:=zh (fun w => zqdp x w hx)
 have k1:(kindI x != 1) = true:=by simpa using hk
 generalize belowB x = b at *;generalize kindI x = K at *;clear hk;go_enter Tryz.func184,Tryz.ntmps184;go_wp2_with fail;refine (hA.out _).mono ?_; rintro e w1 ⟨rfl,hd⟩;go_wp2_with fail;refine (hS.out _).mono ?_; rintro e w2 ⟨rfl,rfl⟩;go_wp2_with fail;go_ret3;exact ⟨rfl,hd⟩
set_option maxRecDepth 100000
open Go.RowKit
set_option linter.unusedVariables false
end Go.Proofs.YtmnbljijnbhghaaGreatDoor
namespace Go.Proofs.YtmnbljijnbhghaaGreatDoor
set_option maxRecDepth 100000
open Go.RowKit
set_option linter.unusedVariables false
set_option maxRecDepth 100000
open Go.RowKit
set_option linter.unusedVariables false
def Flts (w:World) (v:Value) (xs:List Nat):Prop :=
 (∃ a cap,v = .slice a xs.length cap ∧ xs.length ≤ cap ∧ (xs = [] ∨ ∃ b off,a = some ⟨b,off,none⟩ ∧ b < w.heap.size ∧ ∀ i,i < xs.length → w.cell? ⟨b,off + i,none⟩ = some (.float .f64 (xs.getD i 0)))) ∧ ∀ i,W64 (xs.getD i 0)
theorem Flts.shape {w:World} {v:Value} {xs:List Nat} (h:Flts w v xs):∃ p c,v = .slice p xs.length c:=by
 obtain ⟨⟨a,c,rfl,-⟩,-⟩:=h;exact ⟨a,c,rfl⟩
theorem Flts.cell {w:World} {p:Option Addr} {l c:Nat} {xs:List Nat} (h:Flts w (.slice p l c) xs) {i:Nat} (hi:i < xs.length):∃ b off,p = some ⟨b,off,none⟩ ∧ b < w.heap.size ∧ w.cell? ⟨b,off + i,none⟩ = some (.float .f64 (xs.getD i 0)):=by
 obtain ⟨⟨a,c',e,-,hc⟩,-⟩:=h;simp only [Value.slice.injEq] at e;obtain ⟨rfl,-,-⟩:=e;rcases hc with rfl | ⟨b,off,rfl,hb,hcell⟩
 ·simp at hi
 ·exact ⟨b,off,rfl,hb,hcell i hi⟩
theorem Flts.below {w w':World} {v:Value} {xs:List Nat} (h:Flts w v xs) (hb:Below w.heap.size w w'):Flts w' v xs:=by
 obtain ⟨⟨a,c,rfl,hl,hc⟩,hx⟩:=h;refine ⟨⟨a,c,rfl,hl,hc.imp id ?_⟩,hx⟩;rintro ⟨b,off,rfl,hbl,hcell⟩;exact ⟨b,off,rfl,Nat.lt_of_lt_of_le hbl hb.size,fun i hi => (hb.cell (p:=⟨b,off + i,none⟩) hbl).trans (hcell i hi)⟩
def totF (xs:List Nat):Nat:=xs.foldl (fun f x => f ||| flagN x) 0
def totT (xs:List Nat):Int:=xs.foldl (fun t x => t + unitsI x) 0
theorem zxbq (xs:List Nat) (x:Nat):totF (xs ++ [x]) = totF xs ||| flagN x:=by unfold totF; rw [List.foldl_append]; rfl
theorem zxak (xs:List Nat) (x:Nat):totT (xs ++ [x]) = totT xs + unitsI x:=by unfold totT; rw [List.foldl_append]; rfl
theorem zxaq (l:List Nat) (k:Nat) (h:k < l.length):l.take (k + 1) = l.take k ++ [l.getD k 0]:=by
 rw [List.take_succ_eq_append_getElem h]; simp [List.getD,h]
theorem zxar {xs:List Nat} (h:∀ i,W64 (xs.getD i 0)):∀ k,k ≤ xs.length → Fewer k (totT (xs.take k))
 | 0,_ => by rw [List.take_zero]; exact Fewer.zero
 | k + 1,hk => by
  rw [zxaq xs k (by omega),zxak]
  exact (zxar h k (by omega)).add (zqkx _ (h k))
set_option maxRecDepth 100000
open Go.RowKit
set_option linter.unusedVariables false
set_option maxRecDepth 100000
open Go.RowKit
set_option linter.unusedVariables false
end Go.Proofs.YtmnbljijnbhghaaGreatDoor
