/- Contracts that the law leans on: Flor. -/
import Derived.Deep.RegionHeld3
import Derived.Test.YtpgchfihedcdkaaGreatDoorGt02
import Derived.Test.YtpgchfihedcdkaaGreatDoorGt14
namespace Go.Proofs.YtpgchfihedcdkaaGreatDoor
set_option maxRecDepth 100000
open Go.RowKit
set_option linter.unusedVariables false
theorem zqzd {c:Nat} (h1:4503599627370496 ≤ c) (h2:c < 9007199254740992):floatBits .mul .f64 (rungOf c 971) 4611686018427387904 = some 9218868437227405312:=by
 have hc:Canon c 971:=⟨h2,by decide,.inl h1⟩
 obtain ⟨d,p,k1,k2,k3,k4,k5⟩:=(fvc hc (by decide)).read
 obtain ⟨rfl,rfl⟩:=zqcb k1 hc k2;show Ieee.double.mul (rungOf c 971) 4611686018427387904 = _
 unfold Ieee.Format.mul;rw [k5,zqo4];simp only [Ieee.Datum.product,Option.map_some,Ieee.Format.write];have hs:SameD (c * 4503599627370496) (971 + -51) c 972:=⟨52,.inr ⟨by decide,congrArg (c * ·) (by decide:4503599627370496 = 2 ^ 52)⟩⟩
 have hc2:Canon c 972:=⟨h2,by decide,.inl h1⟩
 have hb:(false ^^ false) = false:=rfl;rw [hb,zqeh false hs hc2 (by omega),Nat.min_eq_right (by unfold rungOf; omega)]
 rfl
theorem zq1s:W64 9218868437227405312:=by decide
def upR (c:Nat) (q k:Int):Nat:=if q + k ≤ 971 then rungOf c (q + k) else 9218868437227405312
set_option maxHeartbeats 4000000 in
theorem zqm2 (c:Nat) (q k:Int) (w:World) (hc:Canon c q) (hq:q ≤ 971) (h52:4503599627370496 ≤ c) (hk0:0 ≤ k) (hk1:k ≤ 3000) :
  Calls Tryz.prog 283 #[.float .f64 (rungOf c q),.int .i64 k] w fun e w' => e = .returned (.float .f64 (upR c q k)) ∧ Drawn w w':=by
 have hU:upR c q k = (if q + k ≤ 971 then rungOf c (q + k) else 9218868437227405312):=rfl
 have HC:=zh (And.intro hc (And.intro hq h52));have HU:=zh hU;generalize upR c q k = R at *;have hs0:=zh (show rungOf c q = rungOf c (q + (0:Nat)) by simp)
 generalize rungOf c q = X0 at *;clear hc hq h52 hU;have hzz:(FloatKind.f64.format.order 0 0 == some .eq) = true:=by decide +kernel
 have hinf:=fun w => zqq2 (P:=Tryz.prog) 9218868437227405312 (zqra zq1s (by decide)) 72 w
 have hnan:∀ w,(FloatKind.f64.format.order (nanOf w 9218868437227405312) 0 == some .eq) = false:=fun w => zqb6 (zqfj w _).1 0 .eq
 have HZ:=zh hzz;have HI:=zh (And.intro hinf hnan);clear hzz hinf hnan;go_enter Tryz.func283,Tryz.ntmps283;go_wp2_with fail;go_loop [0,1] (fun x e => ∃ i:Nat,(i:Int) ≤ k ∧ e = .int .i64 (k - i) ∧ ∃ X:Nat,x = .float .f64 X ∧ Hid ((q + i ≤ 971 ∧ X = rungOf c (q + i)) ∨ (q + i = 972 ∧ X = 9218868437227405312))) (fun _ e => (intOf e).toNat)
 case atStart => exact ⟨0,by omega,by simp,_,rfl,zh (.inl ⟨by have:=HC.out.2.1; simpa using this,hs0.out⟩)⟩
 case round =>
  clear hs0;obtain ⟨i,hi,rfl,X,rfl,hX⟩:=hrel
  by_cases hik:(i:Int) = k
  ·have hR:Hid (X = R):=zh (by
    rw [HU.out,← hik];rcases hX.out with ⟨a,b⟩ | ⟨a,b⟩
    ·rw [if_pos a,b]
    ·rw [if_neg (by omega),b])
   have he:k - (i:Int) = 0:=by omega
   rw [he];clear hX HU HC HZ HI he hik hi;go_wp2_with fail;go_loop [0,1] (fun x e => x = .float .f64 X ∧ e = .int .i64 0) (fun _ _ => 0)
   case atStart => exact ⟨rfl,rfl⟩
   case round =>
    obtain ⟨rfl,rfl⟩:=hrel;go_wp2_with fail;go_ret;exact ⟨zqeg hR.out,Drawn.refl _⟩
  ·have hpos:0 < k - (i:Int):=by omega
   have hb1:k - (i:Int) ≤ 3000:=by omega
   rcases hX.out with ⟨a,b⟩ | ⟨a,b⟩
   ·have hcan:Canon c (q + i):=⟨HC.out.1.1,by have:=HC.out.1.2.1; omega,.inl HC.out.2.2⟩
    have ht:=zqhm hcan a (by have:=HC.out.2.2; omega)
    have hop:∀ t w,(binOp .sub t (.float .f64 X) (.float .f64 X)).run Tryz.prog w = .ok (.float .f64 0) w:=fun t w => run_float_arith w .sub t .f64 _ _ _ (by rw [b]; exact zqq9 (zqcm hcan a).1 ht.2.1 ht.1)
    have hz:=HZ.out;have hm:∃ Y,floatBits .mul .f64 X 4611686018427387904 = some Y ∧ ((q + (i + 1:Nat) ≤ 971 ∧ Y = rungOf c (q + (i + 1:Nat))) ∨ (q + (i + 1:Nat) = 972 ∧ Y = 9218868437227405312)):=by
     by_cases h971:q + i = 971
     ·refine ⟨_,?_,.inr ⟨by omega,rfl⟩⟩
      rw [b,h971]; exact zqzd HC.out.2.2 HC.out.1.1
     ·have hcan2:Canon c (q + (i + 1:Nat)):=⟨HC.out.1.1,by have:=HC.out.1.2.1; omega,.inl HC.out.2.2⟩
      refine ⟨rungOf c (q + (i + 1:Nat)),?_,.inl ⟨by omega,rfl⟩⟩
      rw [b];refine zqhq (fvc hcan a) zqpf ?_;rw [Nat.mul_one,show q + (i:Int) + 1 = q + ((i + 1:Nat):Int) by omega]
      exact fvc hcan2 (by omega)
    obtain ⟨Y,hY,hY2⟩:=hm;have hop2:∀ t w,(binOp .mul t (.float .f64 X) (.float .f64 4611686018427387904)).run Tryz.prog w = .ok (.float .f64 Y) w:=fun t w => run_float_arith w .mul t .f64 _ _ _ hY
    have hY2:=zh hY2;clear hX a b hcan ht hY HI HU;go_wp2_with (first | simp only [hop] | simp only [hop2])
    go_round
    case rel => exact ⟨i + 1,by omega,by go_num,_,rfl,hY2⟩
    case measure => simp [intOf]; omega
   ·subst b;have hR:Hid (9218868437227405312 = R):=zh (by rw [HU.out,if_neg (by omega)])
    obtain ⟨hop,hn⟩:=HI.out;have hn:=hn w;clear hX HU HC HZ HI a hik;go_wp2_with (simp only [hop]);go_loop [0,1] (fun x e => x = .float .f64 9218868437227405312 ∧ e = .int .i64 (k - i)) (fun _ _ => 0)
    case atStart => exact ⟨rfl,rfl⟩
    case round =>
     obtain ⟨rfl,rfl⟩:=hrel;go_wp2_with fail;go_ret;exact ⟨zqeg hR.out,(Drawn.refl _).one⟩
set_option maxHeartbeats 4000000 in
theorem zqp8 (X d:Nat) (p:Int) (j:Nat) (w:World) (hd:Canon d p) (h0:d ≠ 0) (hp:p + j ≤ 971) (hj:j ≤ 3000) (hX:FV false X d (p + j)) :
  Calls Tryz.prog 283 #[.float .f64 X,.int .i64 (-(j:Int))] w fun e w' => e = .returned (.float .f64 (rungOf d p)) ∧ Drawn w w':=by
 have HD:=zh (And.intro hd (And.intro h0 hp));have HX:=zh hX;have HR:=zh (show FV false (rungOf d p) d p from fvc hd (by omega))
 generalize rungOf d p = R at *;clear hd h0 hp hX;go_enter Tryz.func283,Tryz.ntmps283;go_wp2_with fail;go_loop [0,1] (fun x e => x = .float .f64 X ∧ e = .int .i64 (-(j:Int))) (fun _ _ => 0)
 case atStart => exact ⟨rfl,rfl⟩
 case round =>
  obtain ⟨rfl,rfl⟩:=hrel;go_wp2_with fail;go_loop [0,1] (fun x e => ∃ i:Nat,i ≤ j ∧ e = .int .i64 (-(i:Int)) ∧ ∃ Y:Nat,x = .float .f64 Y ∧ Hid (FV false Y d (p + i))) (fun _ e => (-(intOf e)).toNat)
  case atStart => exact ⟨j,Nat.le_refl _,rfl,_,rfl,HX⟩
  case round =>
   clear HX;obtain ⟨i,hi,rfl,Y,rfl,hY⟩:=hrel
   by_cases h:i = 0
   ·subst h;have hE:Hid (Y = R):=zh (by have:=hY.out; simp at this; exact this.unique HR.out)
    have e0:-(((0:Nat)):Int) = 0:=by simp
    rw [e0];clear hY e0;go_wp2_with fail;go_ret;exact ⟨zqeg hE.out,Drawn.refl _⟩
   ·obtain ⟨n,rfl⟩:∃ n,i = n + 1:=⟨i - 1,by omega⟩
    obtain ⟨Z,hZ⟩:=FV.make false (c:=d) (q:=p + n) HD.out.1.1 (by have:=HD.out.1.2.1; omega) (by have:=HD.out.2.2; omega)
    have hh:=zqqr hY.out (r:=Z) (by rw [show p + ((n + 1:Nat):Int) - 1 = p + n by omega]; exact hZ)
    have hop:∀ t w,(binOp .quo t (.float .f64 Y) (.float .f64 4611686018427387904)).run Tryz.prog w = .ok (.float .f64 Z) w:=fun t w => run_float_arith w .quo t .f64 _ _ _ hh
    have hne:(FloatKind.f64.format.order Y 0 != some .eq) = true:=by
     obtain ⟨d',p',k1,k2,k3,k4⟩:=hY.out;rw [zqg2] at k4;have hw:=(zqcm k2 k3).1;rw [← k4] at hw;have hz:=(zqhm k2 k3 (fun e => HD.out.2.1 (k1.zero.2 e))).2.2.1
     rw [← k4] at hz;rw [zqcd (zqcr Y hw),hz]; rfl
    have hZ:=zh hZ;have b1:-(((n + 1:Nat)):Int) < 0:=by omega
    have b2:-3000 ≤ -(((n + 1:Nat)):Int):=by omega
    clear hh hY h;go_wp2_with (simp only [hop]);go_round
    case rel => exact ⟨n,by omega,by go_num,_,rfl,hZ⟩
    case measure => simp [intOf]; omega
theorem zqp9 (k:Int) (w:World) (hk:k ≤ 0) (hk1:-3000 ≤ k) :
  Calls Tryz.prog 283 #[.float .f64 0,.int .i64 k] w fun e w' => e = .returned (.float .f64 0) ∧ Drawn w w':=by
 have hne:(FloatKind.f64.format.order 0 0 != some .eq) = false:=by decide +kernel
 go_enter Tryz.func283,Tryz.ntmps283;go_wp2_with fail;go_loop [0,1] (fun x e => x = .float .f64 0 ∧ e = .int .i64 k) (fun _ _ => 0)
 case atStart => exact ⟨rfl,rfl⟩
 case round =>
  obtain ⟨rfl,rfl⟩:=hrel;go_wp2_with fail;go_loop [0,1] (fun x e => x = .float .f64 0 ∧ e = .int .i64 k) (fun _ _ => 0)
  case atStart => exact ⟨rfl,rfl⟩
  case round =>
   obtain ⟨rfl,rfl⟩:=hrel
   by_cases h:k = 0
   ·subst h;go_wp2_with fail;go_ret;exact ⟨rfl,Drawn.refl _⟩
   ·have hb:k < 0:=by omega
    go_wp2_with fail;go_ret;exact ⟨rfl,Drawn.refl _⟩
theorem zqu8 {r c:Nat} {q:Int} (h0:r ≠ 0) (hc:Canon c q) (hs:SameD r 0 c q):4503599627370496 ≤ c:=by
 obtain ⟨c1,c2,c3 | c3⟩:=hc
 ·exact c3
 ·subst c3;obtain ⟨k,⟨g1,g2⟩ | ⟨g1,g2⟩⟩:=hs
  ·have h1:2 ^ 53 ≤ 2 ^ k:=Nat.pow_le_pow_right (by decide) (by omega)
   have h2:1 * 2 ^ k ≤ r * 2 ^ k:=Nat.mul_le_mul_right _ (by omega)
   have h3:(2:Nat) ^ 53 = 9007199254740992:=by decide
   omega
  ·omega
theorem zqtb (r:Nat) (k:Int) (R:Nat) (w:World) (hr:r ≤ 9007199254740992) (h1:-1074 ≤ k) (h2:k ≤ 971) (h:IsFl r k R) (hz:r = 0 → k ≤ 0) :
  Calls Tryz.prog 283 #[.float .f64 (floatOfInt .f64 (r:Int)),.int .i64 k] w fun e w' => e = .returned (.float .f64 R) ∧ Drawn w w':=by
 by_cases h0:r = 0
 ·have hR:R = 0:=by
   rcases h with ⟨a,b⟩ | ⟨a,b⟩ | ⟨a,b,c⟩
   ·exact b
   ·exact absurd h0 a
   ·omega
  subst h0 hR;have:floatOfInt .f64 ((0:Nat):Int) = 0:=by decide
  rw [this]; exact zqp9 k w (hz rfl) (by omega)
 ·obtain ⟨c,q,g1,g2,g3,g4,g5⟩:=zqr3 h0 hr;have h52:=zqu8 h0 g1 g4;have hlc:c.log2 = 52:=by
   have:=zqdw g1.1;have:¬ c.log2 < 52:=by rw [Nat.log2_lt g3]; omega
   omega
  have hs:SameD c (q + k) r k:=by
   have:=(g4.add k).symm;rw [Int.zero_add] at this; exact this
  by_cases hk:0 ≤ k
  ·rw [g5];have hR:upR c q k = R:=by
    unfold upR;rcases h with ⟨a,b⟩ | ⟨a,b⟩ | ⟨a,b,e⟩
    ·exact absurd a h0
    ·have hf:=b.same hs;have:=(hf.expo g3).2;rw [if_pos (by omega)]
     exact (fvc ⟨g1.1,by have:=g1.2.1; omega,.inl h52⟩ (by omega)).unique hf
    ·subst a b e;have hl:=g4.log2 g3;have e2:(9007199254740992:Nat).log2 = 53:=by decide +kernel
     rw [e2] at hl;rw [if_neg (by omega)]
   rw [← hR];exact zqm2 c q k w g1 (by omega) h52 hk (by omega)
  ·rcases h with ⟨a,b⟩ | ⟨a,b⟩ | ⟨a,b,e⟩
   ·exact absurd a h0
   ·obtain ⟨d,p,k1,k2,k3,k4⟩:=b;rw [zqg2] at k4;rw [k4,g5];have hd0:d ≠ 0:=fun e => h0 (k1.zero.2 e)
    have hl:=k1.log2 hd0;have hlr:r.log2 ≤ 53:=by have:=(Nat.log2_lt h0 (k:=54)).2 (by omega); omega
    have hlq:=g4.log2 g3;have hX:FV false (rungOf c q) d (p + ((-k).toNat:Nat)):=by
     refine (fvc g1 (by omega)).same (SameD.trans ?_ g4)
     have:=(k1.symm.add (-k));rw [show k + -k = 0 by omega] at this
     rw [show ((((-k).toNat:Nat)):Int) = -k by omega]; exact this
    have hk2:k = -(((-k).toNat:Nat):Int):=by omega
    have:=zqp8 (rungOf c q) d p (-k).toNat w k2 hd0 (by omega) (by omega) hX
    rw [← hk2] at this;exact this
   ·omega
set_option maxRecDepth 100000
open Go.RowKit
set_option linter.unusedVariables false
theorem zqdd {N:Nat} (h:N ≤ 15000):Sized 20000 ((2:Int) ^ N):=by
 have h1:(2:Nat) ^ N ≤ 1000 ^ N:=Nat.pow_le_pow_left (by decide) N
 have e1:((2 ^ N:Nat):Int) = (2:Int) ^ N:=by simp
 have e2:((1000 ^ N:Nat):Int) = (1000:Int) ^ N:=by simp
 have h2:=zqbx N;have h3:=zqdk (m:=N + 1) (n:=20000) (by omega)
 have h4:=p_pos N;have h5:=p_pos 20000;have h6:(0:Int) < 2 ^ N:=Int.pow_pos (by decide)
 unfold Sized;omega
theorem zqdn {z:Int} {N:Nat} (h0:0 ≤ z) (h1:z ≤ 2 ^ N) (h:N ≤ 15000):Sized 20000 z:=by
 obtain ⟨a,b⟩:=zqdd h;exact ⟨by omega,by omega⟩
theorem zqsx {m n:Nat} (h:(2:Int) ^ m < 2 ^ n):m < n:=by
 by_cases g:m < n
 ·exact g
 ·have:=zqh2 (m:=n) (n:=m) (by omega); omega
theorem zqk4 {z:Nat} {N:Nat} (h0:z ≠ 0):(z:Int) < 2 ^ N ↔ bitsZ z ≤ N:=by
 have h1:=zqf9 (z:=(z:Int)) (by omega)
 have h2:=zqqh (z:=(z:Int)) (by omega)
 have h3:=zqha (z:=(z:Int)) (by omega)
 constructor
 ·intro h;have:=zqsx (Int.lt_of_le_of_lt h2 h);omega
 ·intro h;have:=zqh2 h;omega
set_option maxHeartbeats 4000000 in
theorem zqtx (p q:Value) (z:Nat) (e k:Int) (w:World) (hp:IsNum w p z) (hq:IsNum w q 1) (h0:z ≠ 0) (hz:bitsZ z ≤ 400) (e0:-9000 ≤ e) (e1:e ≤ 3000) (k0:-1100 ≤ k) (k1:k ≤ 1100) :
  Calls Tryz.prog 282 #[p,q,.int .i64 e,.int .i64 k] w fun r w' => r = .returned (.bool (decide ((bitsZ z:Int) + e ≤ k))) ∧ Below w.heap.size w w':=by
 obtain ⟨pb,pp,pl,pc,rfl⟩:=hp.shape;obtain ⟨qb,qp,ql,qc,rfl⟩:=hq.shape;have hB:=zqa4 w (.cells #[.bool pb,.slice pp pl pc] 112) (.cells #[.bool qb,.slice qp ql qc] 112);have HP:=zh (hp.below hB);have HQ:=zh (hq.below hB);have hF:Four' w.heap.size (.bool pb) (.slice pp pl pc) (.bool qb) (.slice qp ql qc) ((w.alloc (.cells #[.bool pb,.slice pp pl pc] 112)).alloc (.cells #[.bool qb,.slice qp ql qc] 112)) :=
  ⟨cell_later (zqab _ _) (by simp [go_sem]),cell_later (zqab _ _) (by simp [go_sem]),by simp [go_sem],by simp [go_sem]⟩
 have hF:=zh hF;have HB:=zh hB;have hzs:Sized 20000 (z:Int):=zqdn (by omega) (Int.le_of_lt (zqf9 (by omega))) (by omega)
 by_cases hke:e ≤ k
 ·obtain ⟨N,hN⟩:=Int.eq_ofNat_of_zero_le (a:=k - e) (by omega)
  have hiff:=zqk4 (N:=N) h0;have hd:decide ((bitsZ z:Int) + e ≤ k) = decide ((z:Int) < 2 ^ N):=by rw [decide_eq_decide,hiff]; omega
  rw [hd];have HT:=zh (fun w1 => zqiv (k - e) N (zh hN) w1 (by omega))
  have h2s:=zqdd (N:=N) (by omega)
  have HM:=zh (fun w1 u v (hu:IsNum w1 u 1) (hv:IsNum w1 v (2 ^ N)) => zqb1 u v 1 (2 ^ N) 20000 w1 hu hv ((sized8 (by decide) (by decide)).mono (by omega)) h2s (by decide))
  have HC:=zh (fun w1 u v (hu:IsNum w1 u (z:Int)) (hv:IsNum w1 v (1 * 2 ^ N)) => zqen u v (z:Int) (1 * 2 ^ N) 20000 w1 hu hv hzs (by rw [Int.one_mul]; exact h2s) (by decide))
  have hcm:decide (cmpI (z:Int) (1 * 2 ^ N) < 0) = decide ((z:Int) < 2 ^ N):=by
   rw [Int.one_mul,decide_eq_decide];have:=zqc6 (x:=(z:Int)) (y:=2 ^ N);omega
  generalize decide ((z:Int) < 2 ^ N) = bb at *;generalize hgg:cmpI (z:Int) (1 * 2 ^ N) = cm at *;have b1:-20000 ≤ k - e:=by omega
  have b2:k - e ≤ 20000:=by omega
  have hwr:IntKind.i64.wrap (k - e) = k - e:=IntWalk.i64_in _ (by omega)
  clear hgg hiff hd h2s hzs hN hp hq hB h0 hz;go_enter Tryz.func282,Tryz.ntmps282;go_upto_region 2 with fail;generalize (w.alloc (.cells #[.bool pb,.slice pp pl pc] 112)).alloc (.cells #[.bool qb,.slice qp ql qc] 112) = W at *;have hk:=Four'.call hF.out (Below.refl _ _).drew;have hBw:Below W.heap.size W W.drew:=(Below.refl _ _).drew;go_region_held3 (fun w' => w'.cell? ⟨w.heap.size,0,none⟩ = some (.bool pb) ∧ w'.cell? ⟨w.heap.size,1,none⟩ = some (.slice pp pl pc) ∧ w'.cell? ⟨w.heap.size + 1,0,none⟩ = some (.bool qb) ∧ w'.cell? ⟨w.heap.size + 1,1,none⟩ = some (.slice qp ql qc))
   (with_reducible exact hk)
   (first
    | (go_at_call 205; refine (HT.out _).mono ?_; rintro r w1 ⟨t,rfl,ht,hb1⟩; have hk:=Four'.call hk hb1; have hBw:=hBw.trans (hb1.mono hBw.size))
    | (go_at_call 154; refine (HM.out _ _ _ (HQ.out.below hBw) ht).mono ?_; rintro r w2 ⟨m,rfl,hm,hb2⟩; have hk:=Four'.call hk hb2; have hBw:=hBw.trans (hb2.mono hBw.size))
    | (go_at_call 204; refine (HC.out _ _ _ (HP.out.below hBw) hm).mono ?_; rintro r w3 ⟨rfl,hb3⟩; have hk:=Four'.call hk hb3; have hBw:=hBw.trans (hb3.mono hBw.size)))
  have hE:=HB.out.trans (hBw.mono HB.out.size);clear hk hBw;go_wp2_with fail;go_ret;exact ⟨rfl,hE⟩
 ·have hd:decide ((bitsZ z:Int) + e ≤ k) = false:=by simp; omega
  rw [hd];obtain ⟨N,hN⟩:=Int.eq_ofNat_of_zero_le (a:=e - k) (by omega)
  have HT:=zh (fun w1 => zqiv (e - k) N (zh hN) w1 (by omega))
  have h2s:=zqdd (N:=N) (by omega)
  have HM:=zh (fun w1 u v (hu:IsNum w1 u (z:Int)) (hv:IsNum w1 v (2 ^ N)) => zqb1 u v (z:Int) (2 ^ N) 20000 w1 hu hv hzs h2s (by decide))
  have hprod:(z:Int) * 2 ^ N ≤ 2 ^ 13000:=by
   have h1:=Int.le_of_lt (zqf9 (z:=(z:Int)) (by omega))
   have h2:(0:Int) ≤ 2 ^ N:=Int.le_of_lt (Int.pow_pos (by decide))
   have h3:=Int.mul_le_mul_of_nonneg_right h1 h2;rw [← Int.pow_add] at h3;exact Int.le_trans h3 (zqh2 (by omega))
  have hpos:1 ≤ (z:Int) * 2 ^ N:=by
   have h2:(0:Int) < 2 ^ N:=Int.pow_pos (by decide)
   have:=Int.mul_pos (show (0:Int) < z by omega) h2
   omega
  have HC:=zh (fun w1 u v (hu:IsNum w1 u ((z:Int) * 2 ^ N)) (hv:IsNum w1 v 1) => zqen u v ((z:Int) * 2 ^ N) 1 20000 w1 hu hv (zqdn (by omega) hprod (by omega)) ((sized8 (by decide) (by decide)).mono (by omega)) (by decide))
  have hcm:decide (cmpI ((z:Int) * 2 ^ N) 1 < 0) = false:=by
   have:=zqc6 (x:=(z:Int) * 2 ^ N) (y:=1);simp; omega
  generalize hgg:cmpI ((z:Int) * 2 ^ N) 1 = cm at *;have b1:-20000 ≤ e - k:=by omega
  have b2:e - k ≤ 20000:=by omega
  have hwr:IntKind.i64.wrap (e - k) = e - k:=IntWalk.i64_in _ (by omega)
  clear hgg hd h2s hzs hN hp hq hB h0 hz hprod hpos;go_enter Tryz.func282,Tryz.ntmps282;go_upto_region 3 with fail;generalize (w.alloc (.cells #[.bool pb,.slice pp pl pc] 112)).alloc (.cells #[.bool qb,.slice qp ql qc] 112) = W at *;have hk:=Four'.call hF.out (Below.refl _ _).drew;have hBw:Below W.heap.size W W.drew:=(Below.refl _ _).drew;go_region_held3 (fun w' => w'.cell? ⟨w.heap.size,0,none⟩ = some (.bool pb) ∧ w'.cell? ⟨w.heap.size,1,none⟩ = some (.slice pp pl pc) ∧ w'.cell? ⟨w.heap.size + 1,0,none⟩ = some (.bool qb) ∧ w'.cell? ⟨w.heap.size + 1,1,none⟩ = some (.slice qp ql qc))
   (with_reducible exact hk)
   (first
    | (go_at_call 205; refine (HT.out _).mono ?_; rintro r w1 ⟨t,rfl,ht,hb1⟩; have hk:=Four'.call hk hb1; have hBw:=hBw.trans (hb1.mono hBw.size))
    | (go_at_call 154; refine (HM.out _ _ _ (HP.out.below hBw) ht).mono ?_; rintro r w2 ⟨m,rfl,hm,hb2⟩; have hk:=Four'.call hk hb2; have hBw:=hBw.trans (hb2.mono hBw.size))
    | (go_at_call 204; refine (HC.out _ _ _ hm (HQ.out.below hBw)).mono ?_; rintro r w3 ⟨rfl,hb3⟩; have hk:=Four'.call hk hb3; have hBw:=hBw.trans (hb3.mono hBw.size)))
  have hE:=HB.out.trans (hBw.mono HB.out.size);clear hk hBw;go_wp2_with fail;go_ret;exact ⟨rfl,hE⟩
set_option maxRecDepth 100000
open Go.RowKit
set_option linter.unusedVariables false
def uB (L:Nat) (e:Int):Int:=min (max ((L:Int) + e - 53) (-1074)) 1024
theorem zq0y (L:Nat) (e:Int):-1074 ≤ uB L e ∧ uB L e ≤ 1024 ∧ (∀ mid:Int,-1074 ≤ mid → mid + 1 ≤ 1024 → ((L:Int) + e ≤ mid + 53 → uB L e ≤ mid) ∧ (¬ (L:Int) + e ≤ mid + 53 → mid + 1 ≤ uB L e)):=by
 unfold uB;exact ⟨by omega,by omega,fun mid h1 h2 => ⟨by omega,by omega⟩⟩
def PQ (w:World) (X:Nat) (a b c d:Value) (x y:Int) (wr:World):Prop :=
 Four' X a b c d wr ∧ Kept w X 112 wr ∧ Kept w (X + 1) 112 wr ∧ IsNum wr (.agg #[a,b]) x ∧ IsNum wr (.agg #[c,d]) y
theorem PQ.call {w w1 w2:World} {X:Nat} {a b c d:Value} {x y:Int} (h:PQ w X a b c d x y w1) (hb:Below w1.heap.size w1 w2):PQ w X a b c d x y w2:=by
 obtain ⟨h1,h2,h3,h4,h5⟩:=h;exact ⟨h1.call hb,h2.call hb,h3.call hb,h4.below hb,h5.below hb⟩
theorem PQ.start (w:World) {a b c d:Value} {x y:Int} (hx:IsNum w (.agg #[a,b]) x) (hy:IsNum w (.agg #[c,d]) y) :
  PQ w w.heap.size a b c d x y ((w.alloc (.cells #[a,b] 112)).alloc (.cells #[c,d] 112)):=by
 have hB:=zqa4 w (.cells #[a,b] 112) (.cells #[c,d] 112);refine ⟨⟨cell_later (zqab _ _) (by simp [go_sem]),cell_later (zqab _ _) (by simp [go_sem]),by simp [go_sem],by simp [go_sem]⟩,(Kept.start w a b _).call (zqab _ _),?_,hx.below hB,hy.below hB⟩
 have:=Kept.start (w.alloc (.cells #[a,b] 112)) c d 112;simp only [World.size_alloc] at this;exact this.down (zqab w _)
theorem zqiq {w w1:World} {N M:Nat} {T:TypeId} (h:Kept w M T w1) (u s:Value) (hne:N ≠ M) (x:Nat) (v:Value) (hc:w1.cell? ⟨N,x,none⟩ = some v):((w1.setCell ⟨M,0,none⟩ u).setCell ⟨M,1,none⟩ s).cell? ⟨N,x,none⟩ = some v:=by
 rw [World.cell?_setCell_far _ _ _ _ (by simp; omega),World.cell?_setCell_far _ _ _ _ (by simp; omega)]; exact hc
theorem zqqy {w w1:World} {M:Nat} {v:Value} {z:Int} (h:Kept w M 112 w1) (u s:Value) (hn:IsNum w1 v z):IsNum ((w1.setCell ⟨M,0,none⟩ u).setCell ⟨M,1,none⟩ s) v z:=by
 obtain ⟨h1,h2,x,y,h3⟩:=h;obtain ⟨cur,h4⟩:=zqas (p:=⟨M,0,none⟩) (u:=u) h3;exact (hn.set u h3 (by decide)).set s h4 (by decide)
theorem PQ.storeP {w w1:World} {X:Nat} {a b c d u s:Value} {x y z:Int} (h:PQ w X a b c d x y w1) (hz:IsNum w1 (.agg #[u,s]) z) :
  PQ w X u s c d z y ((w1.setCell ⟨X,0,none⟩ u).setCell ⟨X,1,none⟩ s):=by
 obtain ⟨⟨c1,c2,c3,c4⟩,h2,h3,h4,h5⟩:=h;exact ⟨⟨(zqfs h2 u s).1,(zqfs h2 u s).2,zqiq h2 u s (by omega) _ _ c3,zqiq h2 u s (by omega) _ _ c4⟩,h2.store u s,h3.far (by omega) h2.2.1 u s,h2.num hz,zqqy h2 u s h5⟩
theorem PQ.storeQ {w w1:World} {X:Nat} {a b c d u s:Value} {x y z:Int} (h:PQ w X a b c d x y w1) (hz:IsNum w1 (.agg #[u,s]) z) :
  PQ w X a b u s x z ((w1.setCell ⟨X + 1,0,none⟩ u).setCell ⟨X + 1,1,none⟩ s):=by
 obtain ⟨⟨c1,c2,c3,c4⟩,h2,h3,h4,h5⟩:=h;exact ⟨⟨zqiq h3 u s (by omega) _ _ c1,zqiq h3 u s (by omega) _ _ c2,(zqfs h3 u s).1,(zqfs h3 u s).2⟩,h2.far (by omega) h3.2.1 u s,h3.store u s,zqqy h3 u s h4,h3.num hz⟩
theorem zqow {z L:Nat} {e:Int} (hL:z < 2 ^ L) (h:e + L < -1074):rN z L e = 0:=by
 have h1:rU L e = -1074:=by unfold rU; omega
 unfold rN;rw [h1,if_neg (by omega)]
 obtain ⟨n,hn⟩:∃ n,(-1074 - e).toNat = L + 1 + n:=⟨(-1074 - e).toNat - (L + 1),by omega⟩
 rw [hn];have h2:2 ^ (L + 1) ≤ 2 ^ (L + 1 + n):=Nat.pow_le_pow_right (by decide) (by omega)
 have h3:2 ^ (L + 1) = 2 ^ L * 2:=Nat.pow_succ ..;unfold rndN;rw [Nat.div_eq_of_lt (by omega),Nat.mod_eq_of_lt (by omega),if_neg (by omega)]
theorem zqzi {z:Nat} {e:Int} (h0:z ≠ 0) (hu:-1074 < rU (bitsZ z) e):rN z (bitsZ z) e ≠ 0:=by
 have h1:rU (bitsZ z) e = (bitsZ z:Int) + e - 53:=by unfold rU at hu ⊢; omega
 have h2:=zqqh (z:=(z:Int)) (by omega)
 have h3:=zqha (z:=(z:Int)) (by omega)
 have e1:((2 ^ (bitsZ (z:Int) - 1):Nat):Int) = (2:Int) ^ (bitsZ (z:Int) - 1):=by simp
 have h4:2 ^ (bitsZ (z:Int) - 1) ≤ z:=by omega
 unfold rN;rw [h1]
 by_cases h:(bitsZ z:Int) + e - 53 ≤ e
 ·rw [if_pos h];have:=zqaw (e - ((bitsZ z:Int) + e - 53)).toNat;exact Nat.mul_ne_zero h0 (by omega)
 ·rw [if_neg h];have h5:2 ^ ((bitsZ z:Int) + e - 53 - e).toNat ≤ z:=Nat.le_trans (Nat.pow_le_pow_right (by decide) (by omega)) h4
  have h6:1 ≤ z / 2 ^ ((bitsZ z:Int) + e - 53 - e).toNat:=(Nat.le_div_iff_mul_le (zqaw _)).2 (by omega)
  unfold rndN
  split <;> omega
theorem zqzh {z L R:Nat} {e U:Int} (h0:z ≠ 0) (hL:bitsZ z = L) (hN:R = (if z = 0 ∨ e + L < -1074 then 0 else if 1024 < e + L then 9218868437227405312 else Ieee.double.nearest false (rN z L e) (rU L e))) (hU:U = min (max ((L:Int) + e - 53) (-1074)) 1024) (h:U ≤ 971) :
  rN z L e ≤ 9007199254740992 ∧ IsFl (rN z L e) U R ∧ (rN z L e = 0 → U ≤ 0):=by
 have hu:rU L e = U:=by unfold rU; omega
 have hlt:=zqd2 h0;rw [hL] at hlt
 by_cases hlow:e + L < -1074
 ·have h1:=zqow hlt hlow;rw [hN,if_pos (.inr hlow),h1];exact ⟨by omega,.inl ⟨rfl,rfl⟩,fun _ => by omega⟩
 ·obtain ⟨f1,f2,f3,-,-⟩:=zqgz (e:=e) hlt (by omega) (by omega)
  rw [hN,if_neg (by omega),if_neg (by omega)]
  have h2:=zqml f1 f2 f3;rw [hu] at h2 ⊢;refine ⟨f1,h2,fun hz => ?_⟩
  by_cases h3:-1074 < U
  ·have:=zqzi (e:=e) h0 (by rw [hL,hu]; exact h3)
   rw [hL] at this;exact absurd hz this
  ·omega
theorem zqwv (z N:Nat):(cmpI (((z % 2 ^ N:Nat):Int) + ((z % 2 ^ N:Nat):Int)) (2 ^ N) = 1 ∧ rndN z N = z / 2 ^ N + 1) ∨ (cmpI (((z % 2 ^ N:Nat):Int) + ((z % 2 ^ N:Nat):Int)) (2 ^ N) = 0 ∧ z / 2 ^ N % 2 = 1 ∧ rndN z N = z / 2 ^ N + 1) ∨
  (cmpI (((z % 2 ^ N:Nat):Int) + ((z % 2 ^ N:Nat):Int)) (2 ^ N) = 0 ∧ z / 2 ^ N % 2 = 0 ∧ rndN z N = z / 2 ^ N) ∨ (cmpI (((z % 2 ^ N:Nat):Int) + ((z % 2 ^ N:Nat):Int)) (2 ^ N) = -1 ∧ rndN z N = z / 2 ^ N):=by
 have e:(2:Int) ^ N = ((2 ^ N:Nat):Int):=by simp
 rw [e];unfold rndN;generalize 2 ^ N = P;generalize z % P = s;generalize z / P = q;rcases Nat.lt_trichotomy P (2 * s) with h | h | h
 ·exact .inl ⟨zqga (by omega),if_pos (.inl h)⟩
 ·have hq:q % 2 = 1 ∨ q % 2 = 0:=by omega
  rcases hq with hq | hq
  ·exact .inr (.inl ⟨zqip (by omega),hq,if_pos (.inr ⟨h,hq⟩)⟩)
  ·exact .inr (.inr (.inl ⟨zqip (by omega),hq,if_neg (by omega)⟩))
 ·exact .inr (.inr (.inr ⟨zqdq (by omega),if_neg (by omega)⟩))
theorem zqkx {z:Nat} (h0:z ≠ 0) (h:bitsZ z ≤ 400):Sized 20000 (z:Int) :=
 zqdn (by omega) (Int.le_of_lt (zqf9 (by omega))) (by omega)
set_option maxHeartbeats 8000000 in
theorem zqmz (p q:Value) (z:Nat) (e:Int) (w:World) (hp:IsNum w p z) (hq:IsNum w q 1) (h0:z ≠ 0) (hz:bitsZ z ≤ 400) (e0:-9000 ≤ e) (e1:e ≤ 3000) :
  Calls Tryz.prog 266 #[p,q,.int .i64 e] w fun r w' => r = .returned (.float .f64 (nearW z e)) ∧ Below w.heap.size w w':=by
 obtain ⟨pb,pp,pl,pc,rfl⟩:=hp.shape;obtain ⟨qb,qp,ql,qc,rfl⟩:=hq.shape;have hPQ:=zh (PQ.start w hp hq);have HB:=zh (fun w1 k u v (hu:IsNum w1 u z) (hv:IsNum w1 v 1) h1 h2 => zqtx u v z e k w1 hu hv h0 hz e0 e1 h1 h2)
 have HZ:=zh (And.intro h0 hz);obtain ⟨u1,u2,u3⟩:=zq0y (bitsZ z) e;have HU:=zh u3;have hN:nearW z e = (if z = 0 ∨ e + bitsZ z < -1074 then 0 else if 1024 < e + bitsZ z then 9218868437227405312 else Ieee.double.nearest false (rN z (bitsZ z) e) (rU (bitsZ z) e)):=rfl
 have HN:=zh hN;generalize nearW z e = R at *;have HUB:=zh (show uB (bitsZ z) e = min (max ((bitsZ z:Int) + e - 53) (-1074)) 1024 from rfl);generalize uB (bitsZ z) e = U at *;generalize hL:bitsZ z = L at *;have HL:=zh hL;clear hp hq h0 hz hN u3 hL;go_enter Tryz.func266,Tryz.ntmps266;go_wp2_with fail;generalize (w.alloc (.cells #[.bool pb,.slice pp pl pc] 112)).alloc (.cells #[.bool qb,.slice qp ql qc] 112) = W at *;generalize w.heap.size = X at *;go_loopw [7,8] (fun lo hi wr => ∃ l h:Int,lo = .int .i64 l ∧ hi = .int .i64 h ∧ -1074 ≤ l ∧ l ≤ h ∧ h ≤ 1024 ∧ l ≤ U ∧ U ≤ h ∧ Hid (PQ w X (.bool pb) (.slice pp pl pc) (.bool qb) (.slice qp ql qc) z 1 wr)) (fun lo hi _ => (intOf hi - intOf lo).toNat)
 case atStart => exact ⟨-1074,1024,rfl,rfl,by omega,by omega,by omega,u1,u2,hPQ⟩
 case round =>
  clear hPQ;obtain ⟨l,h,rfl,rfl,b1,b2,b3,b4,b5,hS⟩:=hrel
  by_cases hlt:l < h
  ·obtain ⟨f1,f2,f3,f4⟩:=hS.out.1;have d0:0 ≤ h - l:=by omega
   have m1:l ≤ l + (h - l) / 2:=by omega
   have m2:l + (h - l) / 2 < h:=by omega
   have HB1:=zh (HB.out wr (l + (h - l) / 2 + 53) _ _ hS.out.2.2.2.1 hS.out.2.2.2.2 (by omega) (by omega))
   have hu:=HU.out (l + (h - l) / 2) (by omega) (by omega)
   by_cases hb:(L:Int) + e ≤ l + (h - l) / 2 + 53
   ·have hd:decide ((L:Int) + e ≤ l + (h - l) / 2 + 53) = true:=by simpa using hb
    rw [hd] at HB1;have hu2:=hu.1 hb;clear hd hu hb;go_wp2_with fail;refine (HB1.out).mono ?_; rintro r w2 ⟨rfl,hb2⟩;have hS2:=zh (hS.out.call hb2);clear f1 f2 f3 f4 hS HB1 hb2;go_wp2_with fail;go_roundw
    case rel => exact ⟨l,l + (h - l) / 2,rfl,rfl,b1,m1,by omega,b4,hu2,hS2⟩
    case measure => simp [intOf]; omega
   ·have hd:decide ((L:Int) + e ≤ l + (h - l) / 2 + 53) = false:=by simpa using hb
    rw [hd] at HB1;have hu2:=hu.2 (by omega)
    clear hd hu hb;go_wp2_with fail;refine (HB1.out).mono ?_; rintro r w2 ⟨rfl,hb2⟩;have hS2:=zh (hS.out.call hb2);clear f1 f2 f3 f4 hS HB1 hb2;go_wp2_with fail;go_roundw
    case rel => exact ⟨l + (h - l) / 2 + 1,h,rfl,rfl,by omega,by omega,b3,hu2,b5,hS2⟩
    case measure => simp [intOf]; omega
  ·obtain rfl:h = l:=by omega
   obtain rfl:U = h:=by omega
   clear b2 b4 b5 HB HU hlt u1 u2
   by_cases hov:971 < U
   ·have hR:=zh (show R = 9218868437227405312 by
     have:=HUB.out;have hz:=HZ.out.1;rw [HN.out,if_neg (by omega),if_pos (by omega)])
    have HO:=zh (fun w => zqm2 4503599627370496 (-52) 2000 w ⟨by decide,by decide,.inl (by decide)⟩ (by decide) (by decide) (by decide) (by decide))
    have hr1:rungOf 4503599627370496 (-52) = 4607182418800017408:=by decide
    have hr2:upR 4503599627370496 (-52) 2000 = 9218868437227405312:=by decide
    rw [hr1,hr2] at HO;have hE:=zh hS.out.2.1.1;clear hr1 hr2 HN HUB HZ HL hS;go_wp2_with fail;refine (HO.out _).mono ?_; rintro r w2 ⟨rfl,hd⟩;go_wp2_with fail;go_ret;exact ⟨zqeg hR.out.symm,hE.out.trans (hd.below.mono hE.out.size)⟩
   ·obtain ⟨g1,g2,g3⟩:=zqzh HZ.out.1 HL.out HN.out HUB.out (by omega)
    have HT:=zh (fun w => zqtb (rN z L e) U R w g1 b1 (by omega) g2 g3)
    by_cases hle:U ≤ e
    ·obtain ⟨N,hNe⟩:=Int.eq_ofNat_of_zero_le (a:=e - U) (by omega)
     have hrn:rN z L e = z * 2 ^ N:=by
      have h1:rU L e = U:=by have:=HUB.out; unfold rU; omega
      unfold rN;rw [h1,if_pos hle,show (e - U).toNat = N by omega]
     have hx0:(0:Int) < 2 ^ N:=Int.pow_pos (by decide)
     have hxr:(z:Int) * 2 ^ N = ((rN z L e:Nat):Int):=by rw [hrn]; simp
     generalize rN z L e = r at *;have HT2:=zh (fun w1 => zqiv (e - U) N (zh hNe) w1 (by omega))
     have hzs:=zqkx HZ.out.1 (by rw [HL.out]; exact HZ.out.2)
     have hrs:Sized 20000 (r:Int):=(sized8 (by omega) (by omega)).mono (by omega)
     have h1s:Sized 20000 (1:Int):=(sized8 (by decide) (by decide)).mono (by omega)
     have h2s:=zqdd (N:=N) (by omega)
     have HM:=zh (fun w1 u v (hu:IsNum w1 u (z:Int)) (hv:IsNum w1 v (2 ^ N)) => zqb1 u v (z:Int) (2 ^ N) 20000 w1 hu hv hzs h2s (by decide))
     rw [hxr] at HM;have HD:=zh (fun w1 u v (hu:IsNum w1 u (r:Int)) (hv:IsNum w1 v 1) => zqqx u v (r:Int) 1 20000 w1 hu hv hrs h1s (by decide) (by decide))
     have hfd:(r:Int).fdiv 1 = (r:Int):=by rw [Int.fdiv_eq_ediv_of_nonneg _ (by decide)]; simp
     have hfm:(r:Int).fmod 1 = 0:=by rw [Int.fmod_eq_emod_of_nonneg _ (by decide)]; simp
     rw [hfd,hfm] at HD;have h0s:Sized 20000 (0:Int):=(sized8 (by decide) (by decide)).mono (by omega)
     have HAd:=zh (fun w1 u (hu:IsNum w1 u 0) => zqis u u 0 0 20000 w1 hu hu h0s h0s (by decide))
     have HC:=zh (fun w1 u v (hu:IsNum w1 u (0 + 0)) (hv:IsNum w1 v 1) => zqen u v (0 + 0) 1 20000 w1 hu hv h0s h1s (by decide))
     have hcm:cmpI (0 + 0) 1 = -1:=by decide
     rw [hcm] at HC;have HUi:=zh (fun w1 u (hu:IsNum w1 u (r:Int)) => zqoz u (r:Int) w1 hu (by omega) (by omega))
     have hna:(((r:Int).natAbs:Nat):Int) = (r:Int):=by simp
     rw [hna] at HUi;have hwr:IntKind.i64.wrap (e - U) = e - U:=IntWalk.i64_in _ (by omega)
     have b8:-20000 ≤ e - U:=by omega
     have b9:e - U ≤ 20000:=by omega
     obtain ⟨f1,f2,f3,f4⟩:=hS.out.1;clear hx0 hxr hrn hNe hfd hfm hzs hrs h1s h2s h0s hcm hna g2 g3 HN HUB HL HZ;go_wp2_with fail;go_region_with (first
      | (go_at_call 205; refine (HT2.out _).mono ?_; rintro r1 w1 ⟨t,rfl,ht,hb1⟩; replace hb1:=zqfx hb1; have hS1:=hS.out.call hb1; obtain ⟨q1,q2,q3,q4⟩:=hS1.1)
      | (go_at_call 154; refine (HM.out _ _ _ hS1.2.2.2.1 ht).mono ?_; rintro r2 w2 ⟨m0,rfl,hm,hb2⟩; have hS2:=hS1.call hb2; obtain ⟨rn,rp,rl,rc,rfl⟩:=hm.shape; obtain ⟨⟨x2,hx2⟩,⟨y2,hy2⟩,hf1,hf2⟩:=hS2.2.1.cells))
     all_goals
      have hS5:=zh (hS2.storeP hm);clear hS1 hS2 hm ht hb1 hb2 q1 q2 q3 q4 f1 f2 f3 f4 hx2 hy2 hf1 hf2 HT2 HM hS hwr;generalize (w2.setCell ⟨X,0,none⟩ (.bool rn)).setCell ⟨X,1,none⟩ (.slice rp rl rc) = W5 at *;obtain ⟨f1,f2,f3,f4⟩:=hS5.out.1;go_wp2_with fail;refine (HD.out _ _ _ hS5.out.2.2.2.1 hS5.out.2.2.2.2).mono ?_; rintro r3 w6 ⟨mq,lf,rfl,hmq,hlf,hb6⟩;obtain ⟨mb,mp,ml,mc,rfl⟩:=hmq.shape;obtain ⟨lb,lp,ll,lc,rfl⟩:=hlf.shape;have hS6:=hS5.out.call hb6;have hb7:=zqa4 w6 (.cells #[.bool mb,.slice mp ml mc] 112) (.cells #[.bool lb,.slice lp ll lc] 112);have hS7:=hS6.call hb7;have Hmq:=zh (hmq.below hb7);have Hlf:=zh (hlf.below hb7);have Hqn:=zh hS7.2.2.2.2;have h6:SixAt w6.heap.size (w6.heap.size + 1) (X + 1) (.bool mb) (.slice mp ml mc) (.bool lb) (.slice lp ll lc) (.bool qb) (.slice qp ql qc) ((w6.alloc (.cells #[.bool mb,.slice mp ml mc] 112)).alloc (.cells #[.bool lb,.slice lp ll lc] 112)) :=
       ⟨⟨cell_later (zqab _ _) (by simp [go_sem]),cell_later (zqab _ _) (by simp [go_sem])⟩,⟨by simp [go_sem],by simp [go_sem]⟩,hS7.1.2.2.1,hS7.1.2.2.2⟩
      have H6:=zh h6;have HE:=zh hS7.2.1.1;clear f1 f2 f3 f4 hS5 hS6 hS7 hb6 hb7 h6 HD hmq hlf;go_upto_region 17 with fail;generalize (w6.alloc (.cells #[.bool mb,.slice mp ml mc] 112)).alloc (.cells #[.bool lb,.slice lp ll lc] 112) = W7 at *;have hk:=SixAt.call H6.out (Below.refl _ _).drew;have hBw:Below W7.heap.size W7 W7.drew:=(Below.refl _ _).drew;go_region_held3 (fun w' => (w'.cell? ⟨w6.heap.size,0,none⟩ = some (.bool mb) ∧ w'.cell? ⟨w6.heap.size,1,none⟩ = some (.slice mp ml mc)) ∧ (w'.cell? ⟨w6.heap.size + 1,0,none⟩ = some (.bool lb) ∧ w'.cell? ⟨w6.heap.size + 1,1,none⟩ = some (.slice lp ll lc)) ∧ (w'.cell? ⟨X + 1,0,none⟩ = some (.bool qb) ∧ w'.cell? ⟨X + 1,1,none⟩ = some (.slice qp ql qc)))
       (with_reducible exact hk)
       (first
        | (go_at_call 136; refine (HAd.out _ _ (Hlf.out.below hBw)).mono ?_; rintro r4 w8 ⟨sm,rfl,hsm,hb8⟩; have hk:=SixAt.call hk hb8; have hBw:=hBw.trans (hb8.mono hBw.size))
        | (go_at_call 204; refine (HC.out _ _ _ hsm (Hqn.out.below hBw)).mono ?_; rintro r5 w9 ⟨rfl,hb9⟩; have hk:=SixAt.call hk hb9; have hBw:=hBw.trans (hb9.mono hBw.size)))
      obtain ⟨⟨k1,k2⟩,-,-⟩:=hk;have HUi2:=zh (HUi.out _ _ (Hmq.out.below hBw));have HE:=zh (HE.out.trans (hBw.mono HE.out.size));clear hk hBw H6 HAd HC Hmq Hlf Hqn HUi hsm hb8 hb9;go_wp2_with fail;refine (HUi2.out).mono ?_; rintro r6 w10 ⟨rfl,hb10⟩;have HE:=zh (HE.out.trans (hb10.mono HE.out.size));clear k1 k2 hb10 HUi2;go_wp2_with fail;refine (HT.out _).mono ?_; rintro r7 w11 ⟨rfl,hd⟩;go_wp2_with fail;go_ret;exact ⟨rfl,HE.out.trans (hd.below.mono HE.out.size)⟩
    ·obtain ⟨N,hNe⟩:=Int.eq_ofNat_of_zero_le (a:=U - e) (by omega)
     have hrn:rN z L e = rndN z N:=by
      have h1:rU L e = U:=by have:=HUB.out; unfold rU; omega
      unfold rN;rw [h1,if_neg hle,show (U - e).toNat = N by omega]
     generalize rN z L e = r at *;have HT2:=zh (fun w1 => zqiv (U - e) N (zh hNe) w1 (by omega))
     have hzs:=zqkx HZ.out.1 (by rw [HL.out]; exact HZ.out.2)
     have h1s:Sized 20000 (1:Int):=(sized8 (by decide) (by decide)).mono (by omega)
     have h2s:=zqdd (N:=N) (by omega)
     have HM:=zh (fun w1 u v (hu:IsNum w1 u 1) (hv:IsNum w1 v (2 ^ N)) => zqb1 u v 1 (2 ^ N) 20000 w1 hu hv h1s h2s (by decide))
     rw [Int.one_mul] at HM;have hx0:(0:Int) < 2 ^ N:=Int.pow_pos (by decide)
     have HD:=zh (fun w1 u v (hu:IsNum w1 u (z:Int)) (hv:IsNum w1 v (2 ^ N)) => zqqx u v (z:Int) (2 ^ N) 20000 w1 hu hv hzs h2s (by decide) (by omega))
     have e2N:((2:Int) ^ N) = ((2 ^ N:Nat):Int):=by simp
     have hfd:(z:Int).fdiv (2 ^ N) = ((z / 2 ^ N:Nat):Int):=by rw [Int.fdiv_eq_ediv_of_nonneg _ (by omega),e2N,Int.natCast_ediv]
     have hfm:(z:Int).fmod (2 ^ N) = ((z % 2 ^ N:Nat):Int):=by rw [Int.fmod_eq_emod_of_nonneg _ (by omega),e2N,Int.natCast_emod]
     rw [hfd,hfm] at HD;have hcase:=zqwv z N;rw [← hrn] at hcase;have hml:=Nat.mod_lt z (zqaw N);have hMr:z / 2 ^ N ≤ r:=by rw [hrn]; unfold rndN; split <;> omega
     generalize z / 2 ^ N = M at *;generalize z % 2 ^ N = Lf at *;have h3s:=zqdd (N:=N + 1) (by omega)
     have e3:(2:Int) ^ (N + 1) = 2 ^ N * 2:=Int.pow_succ ..;have hls:Sized 20000 (Lf:Int):=zqdn (N:=N) (by omega) (by omega) (by omega)
     have hlls:Sized 20000 ((Lf:Int) + Lf):=zqdn (N:=N + 1) (by omega) (by omega) (by omega)
     have HAd:=zh (fun w1 u (hu:IsNum w1 u (Lf:Int)) => zqis u u (Lf:Int) Lf 20000 w1 hu hu hls hls (by decide))
     have HC:=zh (fun w1 u v (hu:IsNum w1 u ((Lf:Int) + Lf)) (hv:IsNum w1 v (2 ^ N)) => zqen u v ((Lf:Int) + Lf) (2 ^ N) 20000 w1 hu hv hlls h2s (by decide))
     have HUi:=zh (fun w1 u (hu:IsNum w1 u (M:Int)) => zqoz u (M:Int) w1 hu (by omega) (by omega))
     have hna:(((M:Int).natAbs:Nat):Int) = (M:Int):=by simp
     rw [hna] at HUi;generalize cmpI ((Lf:Int) + Lf) (2 ^ N) = cm at *;have hcase:=zh hcase;have bM:(M:Int) ≤ 9007199254740992:=by omega
     have hwr:IntKind.i64.wrap (U - e) = U - e:=IntWalk.i64_in _ (by omega)
     have b8:-20000 ≤ U - e:=by omega
     have b9:U - e ≤ 20000:=by omega
     obtain ⟨f1,f2,f3,f4⟩:=hS.out.1;clear hrn hNe hfd hfm hzs h1s h2s h3s hls hlls hna g1 g2 g3 HN HUB HL HZ hMr hml e2N e3;go_wp2_with fail;go_region_with (first
      | (go_at_call 205; refine (HT2.out _).mono ?_; rintro r1 w1 ⟨t,rfl,ht,hb1⟩; replace hb1:=zqfx hb1; have hS1:=hS.out.call hb1; obtain ⟨q1,q2,q3,q4⟩:=hS1.1)
      | (go_at_call 154; refine (HM.out _ _ _ hS1.2.2.2.2 ht).mono ?_; rintro r2 w2 ⟨m0,rfl,hm,hb2⟩; have hS2:=hS1.call hb2; obtain ⟨rn,rp,rl,rc,rfl⟩:=hm.shape; obtain ⟨⟨x2,hx2⟩,⟨y2,hy2⟩,hf1,hf2⟩:=hS2.2.2.1.cells))
     all_goals
      have hS5:=zh (hS2.storeQ hm);clear hS1 hS2 hm ht hb1 hb2 q1 q2 q3 q4 f1 f2 f3 f4 hx2 hy2 hf1 hf2 HT2 HM hS hwr;generalize (w2.setCell ⟨X + 1,0,none⟩ (.bool rn)).setCell ⟨X + 1,1,none⟩ (.slice rp rl rc) = W5 at *;obtain ⟨f1,f2,f3,f4⟩:=hS5.out.1;go_wp2_with fail;refine (HD.out _ _ _ hS5.out.2.2.2.1 hS5.out.2.2.2.2).mono ?_; rintro r3 w6 ⟨mq,lf,rfl,hmq,hlf,hb6⟩;obtain ⟨mb,mp,ml,mc,rfl⟩:=hmq.shape;obtain ⟨lb,lp,ll,lc,rfl⟩:=hlf.shape;have hS6:=hS5.out.call hb6;have hb7:=zqa4 w6 (.cells #[.bool mb,.slice mp ml mc] 112) (.cells #[.bool lb,.slice lp ll lc] 112);have hS7:=hS6.call hb7;have Hmq:=zh (hmq.below hb7);have Hlf:=zh (hlf.below hb7);have Hqn:=zh hS7.2.2.2.2;have h6:SixAt w6.heap.size (w6.heap.size + 1) (X + 1) (.bool mb) (.slice mp ml mc) (.bool lb) (.slice lp ll lc) (.bool rn) (.slice rp rl rc) ((w6.alloc (.cells #[.bool mb,.slice mp ml mc] 112)).alloc (.cells #[.bool lb,.slice lp ll lc] 112)) :=
       ⟨⟨cell_later (zqab _ _) (by simp [go_sem]),cell_later (zqab _ _) (by simp [go_sem])⟩,⟨by simp [go_sem],by simp [go_sem]⟩,hS7.1.2.2.1,hS7.1.2.2.2⟩
      have H6:=zh h6;have HE:=zh hS7.2.1.1;clear f1 f2 f3 f4 hS5 hS6 hS7 hb6 hb7 h6 HD hmq hlf;go_upto_region 17 with fail;generalize (w6.alloc (.cells #[.bool mb,.slice mp ml mc] 112)).alloc (.cells #[.bool lb,.slice lp ll lc] 112) = W7 at *;have hk:=SixAt.call H6.out (Below.refl _ _).drew;have hBw:Below W7.heap.size W7 W7.drew:=(Below.refl _ _).drew;go_region_held3 (fun w' => (w'.cell? ⟨w6.heap.size,0,none⟩ = some (.bool mb) ∧ w'.cell? ⟨w6.heap.size,1,none⟩ = some (.slice mp ml mc)) ∧ (w'.cell? ⟨w6.heap.size + 1,0,none⟩ = some (.bool lb) ∧ w'.cell? ⟨w6.heap.size + 1,1,none⟩ = some (.slice lp ll lc)) ∧ (w'.cell? ⟨X + 1,0,none⟩ = some (.bool rn) ∧ w'.cell? ⟨X + 1,1,none⟩ = some (.slice rp rl rc)))
       (with_reducible exact hk)
       (first
        | (go_at_call 136; refine (HAd.out _ _ (Hlf.out.below hBw)).mono ?_; rintro r4 w8 ⟨sm,rfl,hsm,hb8⟩; have hk:=SixAt.call hk hb8; have hBw:=hBw.trans (hb8.mono hBw.size))
        | (go_at_call 204; refine (HC.out _ _ _ hsm (Hqn.out.below hBw)).mono ?_; rintro r5 w9 ⟨rfl,hb9⟩; have hk:=SixAt.call hk hb9; have hBw:=hBw.trans (hb9.mono hBw.size)))
      obtain ⟨⟨k1,k2⟩,-,-⟩:=hk;have HUi2:=zh (HUi.out _ _ (Hmq.out.below hBw));have HE:=zh (HE.out.trans (hBw.mono HE.out.size));clear hk hBw H6 HAd HC Hmq Hlf Hqn HUi hsm hb8 hb9;go_wp2_with fail;refine (HUi2.out).mono ?_; rintro r6 w10 ⟨rfl,hb10⟩;have HE:=zh (HE.out.trans (hb10.mono HE.out.size));clear k1 k2 hb10 HUi2;rcases hcase.out with ⟨rfl,hr⟩ | ⟨rfl,hm1,hr⟩ | ⟨rfl,hm1,hr⟩ | ⟨rfl,hr⟩
      ·have hr2:(M:Int) + 1 = (r:Int):=by omega
       clear hr hcase;go_wp2_with fail;refine (HT.out _).mono ?_; rintro r7 w11 ⟨rfl,hd⟩;go_wp2_with fail;go_ret;exact ⟨rfl,HE.out.trans (hd.below.mono HE.out.size)⟩
      ·have hr2:(M:Int) + 1 = (r:Int):=by omega
       have hm2:((M:Int) % 2 == 1) = true:=by simp; omega
       clear hr hcase hm1;go_wp2_with fail;refine (HT.out _).mono ?_; rintro r7 w11 ⟨rfl,hd⟩;go_wp2_with fail;go_ret;exact ⟨rfl,HE.out.trans (hd.below.mono HE.out.size)⟩
      ·have hr2:(M:Int) = (r:Int):=by omega
       have hm2:((M:Int) % 2 == 1) = false:=by simp; omega
       rw [← hr2] at HT;clear hr hcase hm1 hr2;go_wp2_with fail;refine (HT.out _).mono ?_; rintro r7 w11 ⟨rfl,hd⟩;go_wp2_with fail;go_ret;exact ⟨rfl,HE.out.trans (hd.below.mono HE.out.size)⟩
      ·have hr2:(M:Int) = (r:Int):=by omega
       rw [← hr2] at HT;clear hr hcase hr2;go_wp2_with fail;refine (HT.out _).mono ?_; rintro r7 w11 ⟨rfl,hd⟩;go_wp2_with fail;go_ret;exact ⟨rfl,HE.out.trans (hd.below.mono HE.out.size)⟩
set_option maxRecDepth 100000
open Go.RowKit
set_option linter.unusedVariables false
theorem zqit {w:World} {b:Bool} {p:Option Addr} {l c:Nat} {z:Int} (h:IsNum w (.agg #[.bool b,.slice p l c]) z):l = 0 ↔ z = 0:=by
 obtain ⟨neg,s,ds,e,⟨p',c',e2,-⟩,-,hd,ht,-,hz⟩:=h;simp only [Value.agg.injEq,Array.mk.injEq,List.cons.injEq,and_true,Value.bool.injEq] at e;obtain ⟨rfl,e3⟩:=e;rw [← e3] at e2;simp only [Value.slice.injEq] at e2;obtain ⟨-,rfl,-⟩:=e2;have hz0:=ht.zero hd;rw [hz]
 constructor
 ·intro hl;have:ds = []:=List.length_eq_zero_iff.1 hl;rw [hz0.2 this]; cases b <;> rfl
 ·intro hs;have:val ds = 0:=by cases b <;> simp [signed] at hs <;> omega
  rw [hz0.1 this]; rfl
theorem zqms {z:Nat} {e:Int} (h0:z ≠ 0) (h:1024 < e + bitsZ z):nearW z e = 9218868437227405312:=by
 unfold nearW; rw [if_neg (by omega),if_pos h]
theorem zqmr (z:Nat) (e:Int):W64 (nearW z e):=by have:=zqzg z e; unfold W64; omega
set_option maxHeartbeats 4000000 in
theorem zqfn (b:Bool) (v:Value) (z:Nat) (e:Int) (w:World) (hv:IsNum w v z) (hz:bitsZ z ≤ 400) (e0:-9223372036854775808 ≤ e) (e1:e ≤ 9223372036854775807) :
  Calls Tryz.prog 240 #[.bool b,v,.int .i64 e] w fun r w' => r = .returned (.float .f64 (signN b (nearW z e))) ∧ Below w.heap.size w w':=by
 by_cases h0:z = 0
 ·subst h0;obtain ⟨nb,np,nl,nc,rfl⟩:=hv.shape;have hl:nl = 0:=(zqit hv).2 rfl;subst hl;have hx:(w.alloc (.cells #[.bool nb,.slice np 0 nc] 112)).cell? ⟨w.heap.size,1,none⟩ = some (.slice np 0 nc):=by simp [go_sem]
  have hn:nearW 0 e = 0:=by unfold nearW; rw [if_pos (.inl rfl)]
  rw [hn];have HG:=zh (fun w => zqfo b 0 w (by decide))
  have HB:=zh (zqab w (.cells #[.bool nb,.slice np 0 nc] 112));generalize signN b 0 = R at *;clear hv hn;go_enter Tryz.func240,Tryz.ntmps240;go_wp2_with fail;refine (HG.out _).mono ?_; rintro r w2 ⟨rfl,rfl⟩;go_wp2_with fail;go_ret;exact ⟨rfl,HB.out⟩
 ·have hL:=zqha (z:=(z:Int)) (by omega)
  by_cases hlow:e < -9000
  ·obtain ⟨nb,np,nl,nc,rfl⟩:=hv.shape;have hl:((nl:Int) == 0) = false:=by have:=zqit hv; simp; omega
   have hx:(w.alloc (.cells #[.bool nb,.slice np nl nc] 112)).cell? ⟨w.heap.size,1,none⟩ = some (.slice np nl nc):=by simp [go_sem]
   have hn:nearW z e = 0:=by unfold nearW; rw [if_pos (.inr (by omega))]
   rw [hn];have HG:=zh (fun w => zqfo b 0 w (by decide))
   have HB:=zh (zqab w (.cells #[.bool nb,.slice np nl nc] 112));generalize signN b 0 = R at *;clear hv hn;go_enter Tryz.func240,Tryz.ntmps240;go_wp2_with fail;refine (HG.out _).mono ?_; rintro r w2 ⟨rfl,rfl⟩;go_wp2_with fail;go_ret;exact ⟨rfl,HB.out⟩
  ·by_cases hhi:3000 < e
   ·obtain ⟨nb,np,nl,nc,rfl⟩:=hv.shape;have hB:=zqab w (.cells #[.bool nb,.slice np nl nc] 112);have HV:=zh (hv.below hB);have HB:=zh hB;have hx:(w.alloc (.cells #[.bool nb,.slice np nl nc] 112)).cell? ⟨w.heap.size,0,none⟩ = some (.bool nb):=by simp [go_sem]
    have hy:(w.alloc (.cells #[.bool nb,.slice np nl nc] 112)).cell? ⟨w.heap.size,1,none⟩ = some (.slice np nl nc):=by simp [go_sem]
    have hl:((nl:Int) == 0) = false:=by have:=zqit hv; simp; omega
    have HNr:=zh (fun w1 u v (hu:IsNum w1 u (z:Int)) (hv:IsNum w1 v 1) => zqmz u v z 3000 w1 hu hv h0 hz (by omega) (by omega))
    have hne:nearW z 3000 = nearW z e:=(zqms h0 (by omega)).trans (zqms h0 (by omega)).symm
    rw [hne] at HNr;have HG:=zh (fun w => zqfo b (nearW z e) w (zqmr z e))
    generalize signN b (nearW z e) = R at *;generalize nearW z e = R0 at *;clear hv hB hne h0 hz;go_enter Tryz.func240,Tryz.ntmps240;go_upto_region 7 with fail;generalize w.alloc (.cells #[.bool nb,.slice np nl nc] 112) = W at *;have hk:W.drew.cell? ⟨w.heap.size,0,none⟩ = some (.bool nb) ∧ W.drew.cell? ⟨w.heap.size,1,none⟩ = some (.slice np nl nc):=⟨by simp [hx],by simp [hy]⟩
    have hBw:Below W.heap.size W W.drew:=(Below.refl _ _).drew;go_region_held3 (fun w' => w'.cell? ⟨w.heap.size,0,none⟩ = some (.bool nb) ∧ w'.cell? ⟨w.heap.size,1,none⟩ = some (.slice np nl nc))
     (with_reducible exact hk)
     (first
      | (go_at_call 195; refine (zqbo 1 _ (by decide) (by decide)).mono ?_; rintro r w1 ⟨o,rfl,ho,hb1⟩; have hk:=And.intro (cell_later hb1 hk.1) (cell_later hb1 hk.2); have hBw:=hBw.trans (hb1.mono hBw.size))
      | (go_at_call 266; refine (HNr.out _ _ _ (HV.out.below hBw) ho).mono ?_; rintro r w2 ⟨rfl,hb2⟩; have hk:=And.intro (cell_later hb2 hk.1) (cell_later hb2 hk.2); have hBw:=hBw.trans (hb2.mono hBw.size))
      | (go_at_call 265; refine (HG.out _).mono ?_; rintro r w3 ⟨rfl,rfl⟩))
    have hE:=HB.out.trans (hBw.mono HB.out.size);clear hk hBw;go_wp2_with fail;go_ret;exact ⟨rfl,hE⟩
   ·obtain ⟨nb,np,nl,nc,rfl⟩:=hv.shape;have hB:=zqab w (.cells #[.bool nb,.slice np nl nc] 112);have HV:=zh (hv.below hB);have HB:=zh hB;have hx:(w.alloc (.cells #[.bool nb,.slice np nl nc] 112)).cell? ⟨w.heap.size,0,none⟩ = some (.bool nb):=by simp [go_sem]
    have hy:(w.alloc (.cells #[.bool nb,.slice np nl nc] 112)).cell? ⟨w.heap.size,1,none⟩ = some (.slice np nl nc):=by simp [go_sem]
    have hl:((nl:Int) == 0) = false:=by have:=zqit hv; simp; omega
    have HNr:=zh (fun w1 u v (hu:IsNum w1 u (z:Int)) (hv:IsNum w1 v 1) => zqmz u v z e w1 hu hv h0 hz (by omega) (by omega))
    have hne:nearW z e = nearW z e:=rfl;rw [hne] at HNr;have HG:=zh (fun w => zqfo b (nearW z e) w (zqmr z e))
    generalize signN b (nearW z e) = R at *;generalize nearW z e = R0 at *;clear hv hB hne h0 hz;go_enter Tryz.func240,Tryz.ntmps240;go_upto_region 7 with fail;generalize w.alloc (.cells #[.bool nb,.slice np nl nc] 112) = W at *;have hk:W.drew.cell? ⟨w.heap.size,0,none⟩ = some (.bool nb) ∧ W.drew.cell? ⟨w.heap.size,1,none⟩ = some (.slice np nl nc):=⟨by simp [hx],by simp [hy]⟩
    have hBw:Below W.heap.size W W.drew:=(Below.refl _ _).drew;go_region_held3 (fun w' => w'.cell? ⟨w.heap.size,0,none⟩ = some (.bool nb) ∧ w'.cell? ⟨w.heap.size,1,none⟩ = some (.slice np nl nc))
     (with_reducible exact hk)
     (first
      | (go_at_call 195; refine (zqbo 1 _ (by decide) (by decide)).mono ?_; rintro r w1 ⟨o,rfl,ho,hb1⟩; have hk:=And.intro (cell_later hb1 hk.1) (cell_later hb1 hk.2); have hBw:=hBw.trans (hb1.mono hBw.size))
      | (go_at_call 266; refine (HNr.out _ _ _ (HV.out.below hBw) ho).mono ?_; rintro r w2 ⟨rfl,hb2⟩; have hk:=And.intro (cell_later hb2 hk.1) (cell_later hb2 hk.2); have hBw:=hBw.trans (hb2.mono hBw.size))
      | (go_at_call 265; refine (HG.out _).mono ?_; rintro r w3 ⟨rfl,rfl⟩))
    have hE:=HB.out.trans (hBw.mono HB.out.size);clear hk hBw;go_wp2_with fail;go_ret;exact ⟨rfl,hE⟩
end Go.Proofs.YtpgchfihedcdkaaGreatDoor
