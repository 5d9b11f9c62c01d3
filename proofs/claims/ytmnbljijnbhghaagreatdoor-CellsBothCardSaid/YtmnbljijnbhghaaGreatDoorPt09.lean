/- Contracts that the law leans on: Schh Schk. -/
import Derived.BigQuiet
import Derived.Deep.QuietTactic
import Derived.Test.YtmnbljijnbhghaaGreatDoorPt02
import Derived.Test.YtmnbljijnbhghaaGreatDoorPt08
namespace Go.Proofs.YtmnbljijnbhghaaGreatDoor
set_option maxRecDepth 100000
open Go.RowKit
set_option linter.unusedVariables false
theorem zqga {S:Sc} (h:checkL S = 0):cntB S = true ∧ sizB S.ds = true ∧ vieB (fullL S.ds) S.vs = true:=by
 unfold checkL at h
 split at h
 ·cases h
 ·rename_i h1
  split at h
  ·cases h
  ·split at h
   ·cases h
   ·split at h
    ·cases h
    ·rename_i h2
     split at h
     ·cases h
     ·rename_i h3;exact ⟨by simpa using h1,by simpa using h2,by simpa using h3⟩
def keysL (ds:List (ByteArray × Int)) (m:Int):Nat → Int
 | 0 => 1
 | k + 1 => if m / 2 ^ k % 2 = 1 then keysL ds m k * dz ds k else keysL ds m k
theorem zqc4 {ds:List (ByteArray × Int)} (h:sizB ds = true):∀ k,k ≤ ds.length → 1 ≤ prodL (ds.take k) ∧ prodL (ds.take k) ≤ 1099511627776
 | 0,_ => by simp [prodL]
 | k + 1,hk => by
  have i:=zqc4 h k (by omega)
  have s:=zqcj h (k:=k) (by omega)
  refine ⟨?_,s.2.2⟩;rw [zqeu (by omega)]
  have:=Int.mul_le_mul i.1 s.1 (by omega) (by omega)
  omega
theorem zqcs {ds:List (ByteArray × Int)} (m:Int) (h:sizB ds = true):∀ k,k ≤ ds.length → 1 ≤ keysL ds m k ∧ keysL ds m k ≤ prodL (ds.take k)
 | 0,_ => by simp [prodL,keysL]
 | k + 1,hk => by
  have i:=zqcs m h k (by omega)
  have s:=zqcj h (k:=k) (by omega)
  have p:=zqc4 h k (by omega)
  rw [zqeu (by omega)]
  unfold keysL;have e1:=Int.mul_le_mul i.1 s.1 (by omega) (by omega)
  have e2:=Int.mul_le_mul_of_nonneg_right i.2 (show 0 ≤ dz ds k by omega)
  have e3:=Int.mul_le_mul (Int.le_refl (prodL (ds.take k))) s.1 (by omega) (by omega)
  split
  ·constructor <;> omega
  ·constructor <;> omega
theorem zqkj {k:IntKind} {w:World} {x:Int} {T:TypeId} {N:Nat} (hN:w.heap.size = N):Ints k (w.alloc (.cells #[.int k x] T)) (.slice (some ⟨N,0,none⟩) 1 1) [x]:=by
 subst hN;refine ⟨_,_,rfl,Nat.le_refl _,.inr ⟨w.heap.size,0,rfl,by simp,fun i hi => ?_⟩⟩
 have h0:i = 0:=by simp at hi; omega
 subst h0;simp [go_sem]
theorem zqkq {x:Int} (h0:0 ≤ x) (h1:x ≤ 4294967295):(bits .and .u32 x 1 == 1) = decide (x % 2 = 1):=by
 rw [u32_and x 1 h0 (by omega) (by decide) (by decide)]
 have e:x.toNat &&& (1:Int).toNat = x.toNat % 2:=Nat.and_one_is_mod _;rw [e,Bool.eq_iff_iff];simp;omega
theorem zqdc {m:Int} (m0:0 ≤ m) (m1:m ≤ 4294967295) (k:Nat):0 ≤ m / 2 ^ k ∧ m / 2 ^ k ≤ 4294967295:=by
 have hp:(0:Int) < 2 ^ k:=Int.pow_pos (by decide)
 refine ⟨Int.ediv_nonneg m0 (by omega),?_⟩
 have:=Int.ediv_le_self (b:=2 ^ k) m0;omega
set_option maxHeartbeats 4000000 in
theorem zqfu (w:World) (D I M V:Value) (S:Sc) (m:Int) (h:Sch4 w D I M V S) (hw:SWf S) (m0:0 ≤ m) (m1:m ≤ 4294967295) :
  Calls Tryz.prog 33 #[SchV D I M V,.int .u32 m] w fun e w' => e = .returned (.tuple #[.int .u64 (if checkL S = 0 ∧ m ≤ fullL S.ds then keysL S.ds m S.ds.length else 0),.bool (decide (checkL S = 0 ∧ m ≤ fullL S.ds))]) ∧ Below w.heap.size w w':=by
 have HB0:=zh (zqab w (SchO D I M V));have hx0:=zqau w D I M V;have HC:=zh (fun w1 (hb:Below w.heap.size w w1) => zqej w1 D I M V S (h.below hb) hw)
 have HF:=zh (fun w1 (hb:Below w.heap.size w w1) (hn:S.ds.length ≤ 6) => zqmj w1 D I M V S (h.below hb) hn)
 have HX:=zh hx0;have HH:=zh h;obtain ⟨⟨a,c,rfl⟩,⟨a2,c2,rfl⟩,⟨a3,c3,rfl⟩,a4,c4,rfl⟩:=h.slices;clear h hw hx0
 by_cases hc:checkL S = 0
 ·rw [hc] at HC;have hck:=zqga hc;have hn:=(zqcc.1 hck.1).2.1;have hA:=zqhc hn m0 m1;have he:(2:Int) ^ S.ds.length - 1 = fullL S.ds:=rfl;have he2:(2:Int) ^ S.ds.length = fullL S.ds + 1:=by omega
  rw [he,he2] at hA;have hHH:=HH.out.d;obtain ⟨a',cap',e',h1,h2,h3⟩:=hHH;obtain ⟨rfl,rfl⟩:a = a' ∧ c = cap':=by injection e' with e1 e2 e3; exact ⟨e1,e3⟩
  have hpos:=(zqcc.1 hck.1).1;rcases h3 with h3 | ⟨b,off,rfl,hlt,hcell⟩
  ·rw [h3] at hpos; simp at hpos
  have HCE:=zh hcell;have HKn:=zh (fun k => show keysL S.ds m (k + 1) = if m / 2 ^ k % 2 = 1 then keysL S.ds m k * dz S.ds k else keysL S.ds m k from rfl)
  have HR:=zh (fun k hk => And.intro (zqcs m hck.2.1 k hk) (zqc4 hck.2.1 k hk))
  have HZ:=zh (fun k (hk:k < S.ds.length) => zqcj hck.2.1 hk)
  clear hcell e' he he2
  by_cases hm:m ≤ fullL S.ds
  ·have e1:checkL S = 0 ∧ m ≤ fullL S.ds:=⟨hc,hm⟩;rw [if_pos e1,decide_eq_true e1];rw [decide_eq_false (by omega)] at hA
   generalize fullL S.ds = fu at *;clear hm e1 hc hck;go_enter Tryz.func33,Tryz.ntmps33;go_wp2_with fail;refine (HC.out _ HB0.out).mono ?_; rintro e w1 ⟨rfl,hb⟩;have HB1:=zh (zqaa HB0.out hb);obtain ⟨x0,x1,x2,x3⟩:=(HX.out.below hb).reads;clear hb;go_wp2_with fail;refine (HF.out _ HB1.out hn).mono ?_; rintro e w2 ⟨rfl,hb⟩;have HB2:=zh (zqaa HB1.out hb);obtain ⟨y0,y1,y2,y3⟩:=zqa9 hb ⟨x0,x1,x2,x3⟩;clear hb x0 x1 x2 x3;go_wp2_with fail;clear hA;go_loopw [6,22] (fun pv i wr => ∃ k:Nat,k ≤ S.ds.length ∧ i = .int .i64 k ∧ (∃ p:Int,pv = .int .u64 p ∧ 1 ≤ p ∧ p ≤ 1099511627776 ∧ Hid (p = keysL S.ds m k)) ∧ Hid (Below w.heap.size w wr)) (fun _ i _ => S.ds.length - (intOf i).toNat)
   case atStart => exact ⟨0,Nat.zero_le _,rfl,⟨1,rfl,by decide,by decide,zh rfl⟩,HB2⟩
   case round =>
    obtain ⟨k,hk,rfl,⟨p,rfl,hp0,hp1,HE⟩,HB⟩:=hrel
    by_cases hlk:k < S.ds.length
    ·obtain ⟨c0,c1⟩:=HCE.out k hlk;have c0:wr.cell? ⟨b,off + k * 2,none⟩ = _:=(HB.out.cell (p:=⟨b,off + k * 2,none⟩) hlt).trans c0;have c1:wr.cell? ⟨b,off + k * 2 + 1,none⟩ = _:=(HB.out.cell (p:=⟨b,off + k * 2 + 1,none⟩) hlt).trans c1;have HKk:=zh (HKn.out k);have hz:=HZ.out k hlk;have hr:=HR.out (k + 1) (by omega)
     have hBs:=HB.out.size;have HB1':=zh (HB.out.alloc hBs (.cells #[.string (dn S.ds k),.int .i64 (dz S.ds k)] 68));have hq:=zqev hp0 hp1 hz.1 hz.2.1;have HRk:=zh (show 1 ≤ keysL S.ds m (k + 1) ∧ keysL S.ds m (k + 1) ≤ 1099511627776 by omega)
     generalize dn S.ds k = x at *;generalize dz S.ds k = z at *;have i1:IntKind.u64.wrap z = z:=by rw [IntKind.wrap_u64]; omega
     have i2:IntKind.u64.wrap (p * z) = p * z:=by rw [IntKind.wrap_u64]; omega
     have hb1:=zqkq (zqdc m0 m1 k).1 (zqdc m0 m1 k).2;rw [← HE.out] at HKk;have HE3:=zh hq;clear hr hz hq
     by_cases hbit:m / 2 ^ k % 2 = 1
     ·rw [decide_eq_true hbit] at hb1;rw [if_pos hbit] at HKk;clear hbit;go_wp2_with fail;go_roundw
      case rel => exact ⟨k + 1,by omega,by go_num,⟨p * z,rfl,HE3.out.1,by rw [← HKk.out]; exact HRk.out.2,zh HKk.out.symm⟩,HB1'⟩
      case measure => simp [intOf]; omega
     ·rw [decide_eq_false hbit] at hb1;rw [if_neg hbit] at HKk;clear hbit;go_wp2_with fail;go_roundw
      case rel => exact ⟨k + 1,by omega,by go_num,⟨p,rfl,hp0,hp1,zh HKk.out.symm⟩,HB1'⟩
      case measure => simp [intOf]; omega
    ·have:k = S.ds.length:=by omega
     subst this;have HE2:=zh HE.out;clear HE;go_wp2_with fail;exact bodyPost_ret (v:=.tuple #[.int .u64 p,.bool true]) (by simp [results,Tryz.results33,go_sem]) rfl ⟨by rw [HE2.out],HB.out⟩
  ·have e1:¬ (checkL S = 0 ∧ m ≤ fullL S.ds):=fun h => hm h.2
   rw [if_neg e1,decide_eq_false e1];rw [decide_eq_true (by omega)] at hA
   generalize fullL S.ds = fu at *;clear hm e1 hc hck;go_enter Tryz.func33,Tryz.ntmps33;go_wp2_with fail;refine (HC.out _ HB0.out).mono ?_; rintro e w1 ⟨rfl,hb⟩;have HB1:=zh (zqaa HB0.out hb);obtain ⟨x0,x1,x2,x3⟩:=(HX.out.below hb).reads;clear hb;go_wp2_with fail;refine (HF.out _ HB1.out hn).mono ?_; rintro e w2 ⟨rfl,hb⟩;have HB2:=zh (zqaa HB1.out hb);clear hb;go_wp2_with fail;exact bodyPost_ret (v:=.tuple #[.int .u64 0,.bool false]) (by simp [results,Tryz.results33,go_sem]) rfl ⟨rfl,HB2.out⟩
 ·have e1:¬ (checkL S = 0 ∧ m ≤ fullL S.ds):=fun h => hc h.1
  rw [if_neg e1,decide_eq_false e1];have hc2:((checkL S:Int) != 0) = true:=by simp; omega
  generalize (checkL S:Int) = ck at *;clear hc e1;go_enter Tryz.func33,Tryz.ntmps33;go_wp2_with fail;refine (HC.out _ HB0.out).mono ?_; rintro e w1 ⟨rfl,hb⟩;have HB1:=zh (zqaa HB0.out hb);clear hb;go_wp2_with fail;exact bodyPost_ret (v:=.tuple #[.int .u64 0,.bool false]) (by simp [results,Tryz.results33,go_sem]) rfl ⟨rfl,HB1.out⟩
set_option maxRecDepth 100000
open Go.RowKit
set_option linter.unusedVariables false
theorem zqgm (k:Nat):(2:Int) ^ (k + 1) = 2 * 2 ^ k:=by rw [Int.pow_succ,Int.mul_comm]
theorem zqj0 {k:Nat} (h:k ≤ 31):(1:Int) ≤ 2 ^ k ∧ (2:Int) ^ k ≤ 2147483648:=by
 have h1:(2:Nat) ^ k ≤ 2 ^ 31:=Nat.pow_le_pow_right (by decide) h
 have h2:0 < (2:Nat) ^ k:=Nat.pow_pos (by decide)
 have h3:((2 ^ k:Nat):Int) = 2 ^ k:=by rw [Int.natCast_pow]; rfl
 rw [← h3];omega
set_option maxHeartbeats 1000000 in
theorem zqkl (w:World) (n:Nat) (hn:n ≤ 31) :
  Calls Tryz.prog 60 #[.int .i64 n] w fun e w' => e = .returned (.int .u32 (2 ^ n)) ∧ w = w':=by
 have HP:=zh (fun k (h:k ≤ 31) => @zqj0 k h)
 go_enter Tryz.func60,Tryz.ntmps60;go_wp2;go_loopw [3,4] (fun x i wr => ∃ k:Nat,k ≤ n ∧ i = .int .i64 k ∧ w = wr ∧ ∃ y:Int,x = .int .u32 y ∧ 1 ≤ y ∧ y ≤ 2147483648 ∧ Hid (y = 2 ^ k)) (fun _ i _ => n - (intOf i).toNat)
 case atStart => exact ⟨0,Nat.zero_le _,rfl,rfl,1,rfl,by decide,by decide,zh rfl⟩
 case round =>
  obtain ⟨k,hk,rfl,rfl,y,rfl,y0,y1,HY⟩:=hrel
  by_cases hlk:k < n
  ·have hp:=HP.out k (by omega)
   have hp2:=HP.out (k + 1) (by omega)
   rw [zqgm,← HY.out] at hp2;have HY2:=zh (show 2 * y = 2 ^ (k + 1) by rw [zqgm,← HY.out])
   have i1:IntKind.u32.wrap (2 * y) = 2 * y:=by rw [IntKind.wrap_u32]; omega
   go_wp2;go_roundw
   case rel => exact ⟨k + 1,by omega,by go_num,by trivial,2 * y,rfl,by omega,by omega,HY2⟩
   case measure => simp [intOf]; omega
  ·have:k = n:=by omega
   subst this;have HE:=zh HY.out;clear HY;go_wp2;go_ret;rw [HE.out];exact ⟨rfl,rfl⟩
theorem zqmy (w:World) (m:Int) (n:Nat) (hn:n ≤ 31) (m0:0 ≤ m) (m1:m ≤ 4294967295) :
  Calls Tryz.prog 65 #[.int .u32 m,.int .i64 n] w fun e w' => e = .returned (.bool (decide (m / 2 ^ n % 2 = 1))) ∧ w = w':=by
 have HT:=zh (zqkl w n hn);have hp:=zqj0 hn;have hd:=zqdc m0 m1 n;have hr:(m / 2 ^ n).tmod 2 = m / 2 ^ n % 2:=Int.tmod_eq_emod_of_nonneg hd.1;have hq:m.tdiv (2 ^ n) = m / 2 ^ n:=Int.tdiv_eq_ediv_of_nonneg m0;generalize (2:Int) ^ n = p at *;go_enter Tryz.func65,Tryz.ntmps65;go_wp2_with fail;refine (HT.out).mono ?_; rintro e w1 ⟨rfl,rfl⟩;go_wp2_with fail;go_ret;exact ⟨rfl,rfl⟩
theorem zqvl {n i:Nat} (hn:n ≤ 6) (hi:i ≤ 31):((2:Int) ^ n - 1) / 2 ^ i % 2 = 1 ↔ i < n:=by
 have key:∀ n,n < 7 → ∀ i,i < 32 → (((2:Int) ^ n - 1) / 2 ^ i % 2 = 1 ↔ i < n):=by decide
 exact key n (by omega) i (by omega)
theorem zqr8 {m:Int} {n:Nat} (m0:0 ≤ m) (m1:m ≤ 4294967295) (h:∀ i,i < 32 → m / 2 ^ i % 2 = 1 → i < n):m < 2 ^ n:=by
 obtain ⟨M,rfl⟩:∃ M:Nat,m = M:=⟨m.toNat,by omega⟩
 have hlt:M < 2 ^ n:=by
  refine Nat.lt_pow_two_of_testBit M fun i hi => ?_
  by_cases h32:i < 32
  ·by_cases hb:M.testBit i = true
   ·exfalso;have h2:(M:Int) / 2 ^ i % 2 = 1:=by
     rw [Nat.testBit_eq_decide_div_mod_eq] at hb;have:=of_decide_eq_true hb;have e:((2 ^ i:Nat):Int) = 2 ^ i:=by rw [Int.natCast_pow]; rfl
     rw [← e];omega
    have:=h i h32 h2;omega
   ·simpa using hb
  ·exact Nat.testBit_lt_two_pow (Nat.lt_of_lt_of_le (show M < 2 ^ 32 by omega) (Nat.pow_le_pow_right (by decide) (by omega)))
 have e:((2 ^ n:Nat):Int) = 2 ^ n:=by rw [Int.natCast_pow]; rfl
 rw [← e]; omega
theorem zqw8 {m:Int} {n i:Nat} (m0:0 ≤ m) (hm:m < 2 ^ n) (h:n ≤ i):m / 2 ^ i % 2 = 0:=by
 have h1:(2:Nat) ^ n ≤ 2 ^ i:=Nat.pow_le_pow_right (by decide) h
 have h2:((2 ^ n:Nat):Int) = 2 ^ n:=by rw [Int.natCast_pow]; rfl
 have h3:((2 ^ i:Nat):Int) = 2 ^ i:=by rw [Int.natCast_pow]; rfl
 have hp:(2:Int) ^ n ≤ 2 ^ i:=by rw [← h2,← h3]; omega
 rw [Int.ediv_eq_zero_of_lt m0 (by omega)]
 rfl
set_option maxHeartbeats 2000000 in
theorem zqim (w:World) (m:Int) (n:Nat) (hn:n ≤ 6) (m0:0 ≤ m) (m1:m ≤ 4294967295) :
  Calls Tryz.prog 37 #[.int .u32 m,.int .u32 (2 ^ n - 1)] w fun e w' => e = .returned (.bool (decide (m < 2 ^ n))) ∧ w = w':=by
 have hf:=zqce hn;have HA:=zh (fun i (hi:i ≤ 31) => zqmy w m i hi m0 m1)
 have HF:=zh (fun i (hi:i ≤ 31) => zqmy w (2 ^ n - 1) i hi hf.2.1 (by omega))
 have HB:=zh (fun i (hi:i ≤ 31) => zqvl hn hi)
 have HP:=zh (fun h => @zqr8 m n m0 m1 h)
 have HH:=zh (fun i hm h => @zqw8 m n i m0 hm h)
 generalize (2:Int) ^ n - 1 = f at *;generalize hr:decide (m < 2 ^ n) = r;have HR:=zh hr;clear hr hf;go_enter Tryz.func37,Tryz.ntmps37;go_wp2;go_loopw [5] (fun i wr => ∃ k:Nat,k ≤ 32 ∧ i = .int .i64 k ∧ w = wr ∧ Hid (∀ j,j < k → m / 2 ^ j % 2 = 1 → j < n)) (fun i _ => 32 - (intOf i).toNat)
 case atStart => exact ⟨0,Nat.zero_le _,rfl,rfl,zh (fun j hj => by omega)⟩
 case round =>
  obtain ⟨k,hk,rfl,rfl,HJ⟩:=hrel
  by_cases hlk:k < 32
  ·have hlk':(k:Int) < 32:=by omega
   have HAk:=zh (HA.out k (by omega))
   have HFk:=zh (HF.out k (by omega))
   have HBk:=zh (HB.out k (by omega))
   by_cases h1:m / 2 ^ k % 2 = 1
   ·rw [decide_eq_true h1] at HAk
    by_cases h2:k < n
    ·rw [decide_eq_true (HBk.out.2 h2)] at HFk;have HJ2:=zh (show ∀ j,j < k + 1 → m / 2 ^ j % 2 = 1 → j < n from fun j hj hb => if e:j = k then e ▸ h2 else HJ.out j (by omega) hb)
     clear h1 h2 HBk;go_wp2_with fail;refine (HAk.out).mono ?_; rintro e w1 ⟨rfl,rfl⟩;go_wp2_with fail;refine (HFk.out).mono ?_; rintro e w1 ⟨rfl,rfl⟩;go_wp2_with fail;go_roundw
     case rel => exact ⟨k + 1,by omega,by go_num,by trivial,HJ2⟩
     case measure => simp [intOf]; omega
    ·rw [decide_eq_false (fun h => h2 (HBk.out.1 h))] at HFk
     have HE:=zh (show r = false by
      rw [← HR.out];refine decide_eq_false fun hm => ?_
      have:=HH.out k hm (by omega)
      omega)
     clear h1 h2 HBk;go_wp2_with fail;refine (HAk.out).mono ?_; rintro e w1 ⟨rfl,rfl⟩;go_wp2_with fail;refine (HFk.out).mono ?_; rintro e w1 ⟨rfl,rfl⟩;go_wp2_with fail;go_ret;rw [HE.out];exact ⟨rfl,rfl⟩
   ·rw [decide_eq_false h1] at HAk;have HJ2:=zh (show ∀ j,j < k + 1 → m / 2 ^ j % 2 = 1 → j < n from fun j hj hb => if e:j = k then absurd (e ▸ hb) h1 else HJ.out j (by omega) hb)
    clear h1 HBk;go_wp2_with fail;refine (HAk.out).mono ?_; rintro e w1 ⟨rfl,rfl⟩;go_wp2_with fail;go_roundw
    case rel => exact ⟨k + 1,by omega,by go_num,by trivial,HJ2⟩
    case measure => simp [intOf]; omega
  ·have:k = 32:=by omega
   subst this;have HE:=zh (show r = true by rw [← HR.out]; exact decide_eq_true (HP.out HJ.out))
   go_wp2_with fail;go_ret;rw [HE.out];exact ⟨rfl,rfl⟩
set_option maxRecDepth 100000
open Go.RowKit
set_option linter.unusedVariables false
theorem zqll (w:World) (D I M V:Value) (S:Sc) (h:Sch4 w D I M V S) (hn:S.ds.length ≤ 6) :
  Calls Tryz.prog 30 #[SchV D I M V] w fun e w' => e = .returned (.int .u32 (fullL S.ds)) ∧ Below w.heap.size w w':=by
 obtain ⟨⟨a,c,rfl⟩,-,-,-⟩:=h.slices;have HB:=zh (zqab w (SchO (.slice a S.ds.length c) I M V));have HT:=zh (fun w => zqkl w S.ds.length (by omega))
 have hf:=zqce hn;have hf0:IntKind.u32.wrap ((2:Int) ^ S.ds.length - 1) = 2 ^ S.ds.length - 1:=by rw [IntKind.wrap_u32]; exact hf.1
 have HE:=zh (show fullL S.ds = 2 ^ S.ds.length - 1 from rfl);clear h hf;generalize (2:Int) ^ S.ds.length = p at *;rw [HE.out];go_enter Tryz.func30,Tryz.ntmps30;go_wp2_with fail;refine (HT.out _).mono ?_; rintro e w1 ⟨rfl,rfl⟩;go_wp2_with fail;go_ret;exact ⟨rfl,HB.out⟩
end Go.Proofs.YtmnbljijnbhghaaGreatDoor
namespace Go.Proofs.YtmnbljijnbhghaaGreatDoor
set_option maxRecDepth 100000
open Go.RowKit
set_option linter.unusedVariables false
theorem zqee {P:Program} (w:World) {ops:Array Oper} {o:Oper} {a:Act} {K:Act → World → Prop} {Q:Exit → Act → World → Prop} {E:Prop} (hgd:o.guard = none) (s x:Operand) (t:TypeId)
  (ho:o.op = .call { callee:=.builtin .append,args:=#[s,x],argTypes:=#[t,t] })
  (base:Nat) (e:TypeId) (i:TypeInfo) (z:Value) (bytes:Nat) (ht:P.underlying t = some (.slice e)) (hi:P.info? e = some i) (hz:i.zero = some z) (hsize:i.size = 1) (hby:i.bytes = bytes) (hzs:z.cells.size = 1)
  (v v2:Value) (zs ns:List ByteArray) (hs:a.eval s = v) (hx:a.eval x = v2) (hown:w.ownsRow base e 1 v zs.length (zs.map Value.string)) (hv2:Strs w v2 ns) (h63:zs.length + ns.length ≤ maxLen) (hbytes:(zs.length + ns.length) * bytes ≤ 140737488355328) (hbase:base ≤ w.heap.size)
  (h:∀ v' w',w'.ownsRow base e 1 v' (zs ++ ns).length ((zs ++ ns).map Value.string) → w.grownBy w' v.ownBlock → K (a.put o.dst v') w') :
  if Region.wanted o (yielded ops a.tmps) = true then Oper.wp P o a w K Q else E:=by
 have hw:Region.wanted o (yielded ops a.tmps) = true:=by simp [Region.wanted,hgd]
 rw [if_pos hw];obtain ⟨v',w',hrun,r1,r2⟩:=zqez (P:=P) w base t o.type e i z bytes ht hi hz hsize hby hzs v v2 zs ns hown hv2 h63 hbytes hbase;unfold Oper.wp;simp [execOp,ho,resolve,invoke,builtin,hs,hx,hrun,Result.andThen];exact h v' w' r1 r2
theorem zqtq (S:Sc):(S.ds.map Prod.fst ++ S.is) ++ S.ns = namesL S:=rfl
theorem zqu0 {w:World} {B B' E n:Nat} {v:Value} {xs:List Value} (h:w.ownsRow B E 1 v n xs) (hb:B' ≤ B):w.ownsRow B' E 1 v n xs:=by
 refine ⟨h.1,?_⟩;rcases h.2 with h0 | ⟨g,cap,cur,h1,h2,h3⟩
 ·exact .inl h0
 ·exact .inr ⟨g,cap,cur,h1,Nat.le_trans hb h2,h3⟩
set_option maxHeartbeats 4000000 in
theorem zqjs (w:World) (D I M V:Value) (S:Sc) (h:Sch4 w D I M V S) (hn:S.ds.length ≤ 100 ∧ S.is.length ≤ 100 ∧ S.ns.length ≤ 100) :
  Calls Tryz.prog 31 #[SchV D I M V] w (MadeS w.heap.size w (namesL S)):=by
 obtain ⟨i0,hi,hz0,hz1,hz2⟩:=info_parts Tryz.infoStr;have HB0:=zh (zqab w (SchO D I M V));have HX:=zh (zqau w D I M V);have HH:=zh h;have hd:=h.d;obtain ⟨⟨a,c,rfl⟩,⟨a2,c2,rfl⟩,⟨a3,c3,rfl⟩,a4,c4,rfl⟩:=h.slices;obtain ⟨a',cap',e',h1,h2,h3⟩:=hd;obtain ⟨rfl,rfl⟩:a = a' ∧ c = cap':=by injection e' with e1 e2 e3; exact ⟨e1,e3⟩
 have HC:=zh h3;have HT:=zh (fun k (hk:k < S.ds.length) => show ((S.ds.take k).map Prod.fst) ++ [dn S.ds k] = (S.ds.take (k + 1)).map Prod.fst by rw [List.take_add_one,List.getElem?_eq_getElem hk,zqso hk,List.map_append]; rfl)
 have HL:=zh (fun k => show ((S.ds.take k).map Prod.fst).length ≤ 100 by simp; omega)
 have HE:=zh (show (S.ds.take S.ds.length).map Prod.fst = S.ds.map Prod.fst by rw [List.take_length])
 have HN:=zh (zqtq S);have HDl:=zh (show (S.ds.map Prod.fst).length ≤ 100 by simp; omega)
 clear h h3 e';go_enter Tryz.func31,Tryz.ntmps31;go_wp2_with fail;generalize hW0:w.alloc (SchO (.slice a S.ds.length c) (.slice a2 S.is.length c2) (.slice a3 S.ns.length c3) (.slice a4 S.vs.length c4)) = W0 at *;go_loopw [3,4] (fun lv i wr => ∃ k:Nat,k ≤ S.ds.length ∧ i = .int .i64 k ∧ Hid (SOwn wr W0.heap.size lv ((S.ds.take k).map Prod.fst) ∧ Below W0.heap.size W0 wr)) (fun _ i _ => S.ds.length - (intOf i).toNat)
 case atStart => exact ⟨0,Nat.zero_le _,rfl,zh ⟨sown0 _ _,Below.refl _ _⟩⟩
 case round =>
  obtain ⟨k,hk,rfl,HS⟩:=hrel;obtain ⟨x0,x1,x2,x3⟩:=(HX.out.below HS.out.2).reads
  by_cases hlk:k < S.ds.length
  ·have hlk':(k:Int) < (S.ds.length:Int):=by omega
   rcases HC.out with h3 | ⟨b,off,rfl,hlt,hc⟩
   ·rw [h3] at hlk; simp at hlk
   obtain ⟨c0,c1⟩:=hc k hlk;have c0:wr.cell? ⟨b,off + k * 2,none⟩ = _:=((zqaa HB0.out HS.out.2).cell (p:=⟨b,off + k * 2,none⟩) hlt).trans c0;have HTk:=zh (HT.out k hlk);have HLk:=zh (HL.out k);clear hc c1;generalize dn S.ds k = x at *;generalize (S.ds.take k).map Prod.fst = L at *;obtain ⟨pa,pl,pc,rfl⟩:=zqam HS.out.1;have hsz:=HS.out.2.size;go_wp2_with (at_builtin; refine zqbv _ (by rfl) _ _ 23 rfl W0.heap.size 9 i0 (.string ⟨#[]⟩) 16 Tryz.underlying23 hi hz0 hz1 hz2 rfl _ _ L [x] rfl rfl (HS.out.1.alloc _) (zqnq rfl) (by have:=HLk.out; unfold maxLen; simp; omega) (by have:=HLk.out; simp; omega) (by simp; omega) ?_; intro v' w1 hown hgrow; have HQ:=zh (And.intro hown (zqcu (HS.out.2.alloc hsz _) (by simp; omega) (HS.out.1.alloc _) hgrow)); obtain ⟨pv',lv',cv',rfl⟩:=zqam hown; clear hown hgrow)
   go_roundw
   case rel => exact ⟨k + 1,by omega,by go_num,zh ⟨by rw [← HTk.out]; exact HQ.out.1,HQ.out.2⟩⟩
   case measure => simp [intOf]; omega
  ·have hke:k = S.ds.length:=by omega
   subst hke;have HS2:=HS.out;rw [HE.out] at HS2;have HS3:=zh HS2;clear HS2;have HLs:=zh (show (S.ds.map Prod.fst ++ S.is).length ≤ 200 by have:=HDl.out; rw [List.length_append]; omega)
   generalize S.ds.map Prod.fst = L at *;obtain ⟨pa,pl,pc,rfl⟩:=zqam HS3.out.1;go_upto_region 6 with fail;have hk:wr.drew.cell? ⟨w.heap.size,0,none⟩ = some (.slice a S.ds.length c) ∧ wr.drew.cell? ⟨w.heap.size,1,none⟩ = some (.slice a2 S.is.length c2) ∧ wr.drew.cell? ⟨w.heap.size,2,none⟩ = some (.slice a3 S.ns.length c3) ∧ wr.drew.cell? ⟨w.heap.size,3,none⟩ = some (.slice a4 S.vs.length c4):=⟨by simp [x0],by simp [x1],by simp [x2],by simp [x3]⟩
   have hBw:Below W0.heap.size W0 wr.drew:=HS3.out.2.drew;have hO:SOwn wr.drew W0.heap.size (.slice pa pl pc) L:=HS3.out.1.drew;clear x0 x1 x2 x3;go_region_held3 (fun w' => w'.cell? ⟨w.heap.size,0,none⟩ = some (.slice a S.ds.length c) ∧ w'.cell? ⟨w.heap.size,1,none⟩ = some (.slice a2 S.is.length c2) ∧ w'.cell? ⟨w.heap.size,2,none⟩ = some (.slice a3 S.ns.length c3) ∧ w'.cell? ⟨w.heap.size,3,none⟩ = some (.slice a4 S.vs.length c4)) (with_reducible exact hk)
    (first
     | (refine zqee _ (by rfl) _ _ _ (by rfl) W0.heap.size 9 i0 (.string ⟨#[]⟩) 16 Tryz.underlying23 hi hz0 hz1 hz2 (by rfl) _ _ L S.is (by rfl) (by rfl) hO (HH.out.i.below (zqaa HB0.out hBw)) (by have:=HDl.out; unfold maxLen; omega) (by have:=HDl.out; omega) hBw.size ?_; intro v' w3 hown hgrow; have hO2:=hown; have hBw2:=zqcu hBw hBw.size hO hgrow; have hk:=zqa9 hBw2 (HX.out.reads); obtain ⟨pv',lv',cv',rfl⟩:=zqam hown; clear hown hgrow)
     | (refine zqee _ (by rfl) _ _ _ (by rfl) W0.heap.size 9 i0 (.string ⟨#[]⟩) 16 Tryz.underlying23 hi hz0 hz1 hz2 (by rfl) _ _ (L ++ S.is) S.ns (by rfl) (by rfl) hO2 (HH.out.n.below (zqaa HB0.out hBw2)) (by have:=HLs.out; unfold maxLen; omega) (by have:=HLs.out; omega) hBw2.size ?_; intro v' w3 hown hgrow; have HQ:=zh (And.intro hown (zqcu hBw2 hBw2.size hO2 hgrow)); have hk:=zqa9 HQ.out.2 (HX.out.reads); obtain ⟨pv',lv',cv',rfl⟩:=zqam hown; clear hown hgrow))
   clear hk hO hO2;go_wp2_with fail;go_ret;refine ⟨⟨_,rfl,?_⟩,zqaa HB0.out HQ.out.2⟩;rw [← HN.out];exact zqu0 HQ.out.1 HB0.out.size
set_option maxRecDepth 100000
open Go.RowKit
set_option linter.unusedVariables false
set_option maxHeartbeats 4000000 in
theorem zqum (w:World) (D I M V:Value) (S:Sc) (m:Int) (h:Sch4 w D I M V S) (hn:S.ds.length ≤ 6) (hz:sizB S.ds = true) (m0:0 ≤ m) (m1:m ≤ 4294967295) :
  Calls Tryz.prog 66 #[SchV D I M V,.int .u32 m] w fun e w' => e = .returned (.int .u64 (keysL S.ds m S.ds.length)) ∧ Below w.heap.size w w':=by
 have HB0:=zh (zqab w (SchO D I M V));have HX:=zh (zqau w D I M V);have hd:=h.d;obtain ⟨⟨a,c,rfl⟩,⟨a2,c2,rfl⟩,⟨a3,c3,rfl⟩,a4,c4,rfl⟩:=h.slices;obtain ⟨a',cap',e',h1,h2,h3⟩:=hd;obtain ⟨rfl,rfl⟩:a = a' ∧ c = cap':=by injection e' with e1 e2 e3; exact ⟨e1,e3⟩
 have HC:=zh h3;have HKn:=zh (fun k => show keysL S.ds m (k + 1) = if m / 2 ^ k % 2 = 1 then keysL S.ds m k * dz S.ds k else keysL S.ds m k from rfl)
 have HR:=zh (fun k hk => And.intro (zqcs m hz k hk) (zqc4 hz k hk))
 have HZ:=zh (fun k (hk:k < S.ds.length) => zqcj hz hk)
 have HI:=zh (fun w k (hk:k ≤ 31) => zqmy w m k hk m0 m1)
 clear h h3 e' hz;go_enter Tryz.func66,Tryz.ntmps66;go_wp2_with fail;generalize hW0:w.alloc (SchO (.slice a S.ds.length c) (.slice a2 S.is.length c2) (.slice a3 S.ns.length c3) (.slice a4 S.vs.length c4)) = W0 at *;go_loopw [5,6] (fun pv i wr => ∃ k:Nat,k ≤ S.ds.length ∧ i = .int .i64 k ∧ W0 = wr ∧ ∃ p:Int,pv = .int .u64 p ∧ 1 ≤ p ∧ p ≤ 1099511627776 ∧ Hid (p = keysL S.ds m k)) (fun _ i _ => S.ds.length - (intOf i).toNat)
 case atStart => exact ⟨0,Nat.zero_le _,rfl,rfl,1,rfl,by decide,by decide,zh rfl⟩
 case round =>
  obtain ⟨k,hk,rfl,rfl,p,rfl,hp0,hp1,HE⟩:=hrel;obtain ⟨x0,x1,x2,x3⟩:=HX.out.reads
  by_cases hlk:k < S.ds.length
  ·have hlk':(k:Int) < (S.ds.length:Int):=by omega
   have HIk:=zh (HI.out W0 k (by omega))
   have HKk:=zh (HKn.out k);rw [← HE.out] at HKk
   by_cases hbit:m / 2 ^ k % 2 = 1
   ·rcases HC.out with h3 | ⟨b,off,rfl,hlt,hc⟩
    ·rw [h3] at hlk; simp at hlk
    obtain ⟨c0,c1⟩:=hc k hlk;have c1:W0.cell? ⟨b,off + k * 2 + 1,none⟩ = _:=(HB0.out.cell (p:=⟨b,off + k * 2 + 1,none⟩) hlt).trans c1;have hz:=HZ.out k hlk;have hr:=HR.out (k + 1) (by omega)
    have hq:=zqev hp0 hp1 hz.1 hz.2.1;have HRk:=zh (show 1 ≤ keysL S.ds m (k + 1) ∧ keysL S.ds m (k + 1) ≤ 1099511627776 by omega)
    generalize dz S.ds k = z at *;have i1:IntKind.u64.wrap z = z:=by rw [IntKind.wrap_u64]; omega
    have i2:IntKind.u64.wrap (p * z) = p * z:=by rw [IntKind.wrap_u64]; omega
    have HE3:=zh hq;rw [decide_eq_true hbit] at HIk;rw [if_pos hbit] at HKk;clear hr hz hq hbit hc c0;go_wp2_with fail;refine (HIk.out).mono ?_; rintro e w1 ⟨rfl,rfl⟩;go_wp2_with fail;go_roundw
    case rel => exact ⟨k + 1,by omega,by go_num,by trivial,p * z,rfl,HE3.out.1,by rw [← HKk.out]; exact HRk.out.2,zh HKk.out.symm⟩
    case measure => simp [intOf]; omega
   ·rw [decide_eq_false hbit] at HIk;rw [if_neg hbit] at HKk;clear hbit;go_wp2_with fail;refine (HIk.out).mono ?_; rintro e w1 ⟨rfl,rfl⟩;go_wp2_with fail;go_roundw
    case rel => exact ⟨k + 1,by omega,by go_num,by trivial,p,rfl,hp0,hp1,zh HKk.out.symm⟩
    case measure => simp [intOf]; omega
  ·have:k = S.ds.length:=by omega
   subst this;have HE2:=zh HE.out;clear HE;go_wp2_with fail;go_ret;rw [HE2.out];exact ⟨rfl,HB0.out⟩
def AnyB (e:Ending):Prop:=∃ b,e = .returned (.bool b)
set_option maxHeartbeats 4000000 in
theorem zqrv (w:World) (D I M V:Value) (S:Sc) (h:Sch4 w D I M V S) :
  Calls Tryz.prog 10 #[SchV D I M V] w fun e w' => AnyB e ∧ Below w.heap.size w w':=by
 have HB0:=zh (zqab w (SchO D I M V));have HX:=zh (zqau w D I M V);have HN:=zh (fun w1 (hb:Below w.heap.size w w1) hn => zqjs w1 D I M V S (h.below hb) hn)
 obtain ⟨⟨a,c,rfl⟩,⟨a2,c2,rfl⟩,⟨a3,c3,rfl⟩,a4,c4,rfl⟩:=h.slices
 by_cases hl:S.ds.length ≤ 100 ∧ S.is.length ≤ 100 ∧ S.ns.length ≤ 100 ∧ S.vs.length ≤ 100
 ·obtain ⟨l1,l2,l3,l4⟩:=hl;have k1:¬ (100:Int) < (S.ds.length:Int):=by omega
  have k2:¬ (100:Int) < (S.is.length:Int):=by omega
  have k3:¬ (100:Int) < (S.ns.length:Int):=by omega
  have k4:¬ (100:Int) < (S.vs.length:Int):=by omega
  clear h;go_enter Tryz.func10,Tryz.ntmps10;go_wp2_with fail;refine (HN.out _ HB0.out ⟨l1,l2,l3⟩).mono ?_; rintro e w1 ⟨⟨v,rfl,hv⟩,hb⟩;have HS:=zh (Strs.own hv);have HB1:=zh (zqaa HB0.out hb);obtain ⟨pa,pl,pc,rfl⟩:=zqam hv;clear hv hb;generalize namesL S = Z at *;obtain ⟨a',cap',e',h1,h2,h3⟩:=HS.out;injection e' with e1 e2 e3;subst e1 e2 e3;have HC:=zh h3;clear h3;go_wp2_with fail;go_loopw [4] (fun i wr => ∃ k:Nat,k ≤ Z.length ∧ i = .int .i64 k ∧ w1 = wr) (fun i _ => Z.length - (intOf i).toNat)
  case atStart => exact ⟨0,Nat.zero_le _,rfl,rfl⟩
  case round =>
   obtain ⟨k,hk,rfl,rfl⟩:=hrel
   by_cases hlk:k < Z.length
   ·have hlk':(k:Int) < (Z.length:Int):=by omega
    rcases HC.out with h3 | ⟨b,off,rfl,hlt,hc⟩
    ·rw [h3] at hlk; simp at hlk
    have hx:=hc k hlk;generalize txt Z k = x at *;clear hc
    by_cases hs:(100:Int) < (x.size:Int)
    ·go_wp2_with fail;go_ret;exact ⟨⟨_,rfl⟩,HB1.out⟩
    ·go_wp2_with fail;go_roundw
     case rel => exact ⟨k + 1,by omega,by go_num,by trivial⟩
     case measure => simp [intOf]; omega
   ·have:k = Z.length:=by omega
    subst this;go_wp2_with fail;go_ret;exact ⟨⟨_,rfl⟩,HB1.out⟩
 ·clear h;go_enter Tryz.func10,Tryz.ntmps10;go_wp2
  all_goals first
   | (exfalso; omega)
   | (go_ret; exact ⟨⟨_,rfl⟩,HB0.out⟩)
set_option maxRecDepth 100000
open Go.RowKit
set_option linter.unusedVariables false
set_option maxHeartbeats 8000000 in
theorem zqjq (w:World) (D I M V:Value) (S:Sc) (h:Sch4 w D I M V S) (hw:SWf S) :
  Calls Tryz.prog 36 #[SchV D I M V] w fun e w' => e = .returned (.int .i64 (checkL S)) ∧ Below w.heap.size w w':=by
 have HE:=zh (show checkL S = if cntB S = false then 3 else if goodN (namesL S) = false then 8 else if 0 ≤ twiceL (namesL S) then 9 else if sizB S.ds = false then 2 else if vieB (fullL S.ds) S.vs = false then 6 else 0 from rfl)
 have HB0:=zh (zqab w (SchO D I M V));have HX:=zh (zqau w D I M V);have HH:=zh h;have HW:=zh hw;have HN:=zh (fun w1 (hb:Below w.heap.size w w1) hn => zqjs w1 D I M V S (h.below hb) hn)
 obtain ⟨⟨a,c,rfl⟩,⟨a2,c2,rfl⟩,⟨a3,c3,rfl⟩,a4,c4,rfl⟩:=h.slices
 by_cases hc:cntB S = true
 ·obtain ⟨l0,l1,l2,l3,l4⟩:=zqcc.1 hc;have k0:¬ (S.ds.length:Int) < 1:=by omega
  have k1:¬ (6:Int) < (S.ds.length:Int):=by omega
  have k2:¬ (3:Int) < (S.is.length:Int):=by omega
  have k3:¬ (2:Int) < (S.ns.length:Int):=by omega
  have k4:¬ (15:Int) < (S.vs.length:Int):=by omega
  have hnl:=zqla hc;rw [hc] at HE;have HIs:=zh (fun k (hk:k < (namesL S).length) wr => zqy6 (txt (namesL S) k) wr (by rw [zqc5 hk]; exact zqgh HW.out _ (List.getElem_mem hk)))
  have HT:=zh (fun v w' (hs:Strs w' v (namesL S)) => zqrp v (namesL S) w' hs)
  have HG0:=zh (@zqi8 (namesL S));have HG1:=zh (fun k => @zqk2 (namesL S) k)
  have HZ0:=zh (@zqno S.ds);have HZ1:=zh (fun k => @zqpt S.ds k)
  have HP:=zh (fun k => @zqeu S.ds k)
  have HWz:=zh (fun k (hk:k < S.ds.length) => show -9223372036854775808 ≤ dz S.ds k ∧ dz S.ds k ≤ 9223372036854775807 by rw [zqi0 hk]; exact (hw.d _ (List.getElem_mem hk)).2)
  have HV0:=zh (@zqnz (fullL S.ds) S.vs);have HV1:=zh (fun k => @zqpx (fullL S.ds) S.vs k)
  have HVd:=zh (fun k => show vieAt (fullL S.ds) S.vs k = (decide (S.vs.getD k 0 < fullL S.ds) && (decide (k = 0) || decide (S.vs.getD (k - 1) 0 < S.vs.getD k 0))) from rfl)
  have HWv:=zh (fun k (hk:k < S.vs.length) => show 0 ≤ S.vs.getD k 0 ∧ S.vs.getD k 0 ≤ 4294967295 by
   have:S.vs.getD k 0 = S.vs[k]:=by simp [List.getD,hk]
   rw [this]; exact hw.v _ (List.getElem_mem hk))
  have HTw:=zh (fun w => zqkl w S.ds.length (by omega))
  have HSu:=zh (fun w x h0 h1 => (zqim w x S.ds.length l1 h0 h1).mono fun e w' h => show e = .returned (.bool (decide (x < 2 ^ S.ds.length))) ∧ ∃ m,w' = w.drewN m from ⟨h.1,0,h.2.symm⟩)
  have hf:=zqce l1;have hfe:fullL S.ds = 2 ^ S.ds.length - 1:=rfl;generalize (2:Int) ^ S.ds.length = p2 at *;rw [hfe] at HE HV0 HV1 HVd;have hf0:IntKind.u32.wrap (p2 - 1) = p2 - 1:=by rw [IntKind.wrap_u32]; exact hf.1
  generalize hfu:p2 - 1 = fu at *;obtain rfl:p2 = fu + 1:=by omega
  clear hfu hfe h hw hc;have HD:=zh HH.out.d;have HVs:=zh HH.out.v;generalize goodN (namesL S) = g at *;generalize twiceL (namesL S) = tw at *;generalize sizB S.ds = sz at *;generalize vieB fu S.vs = vi at *;go_enter Tryz.func36,Tryz.ntmps36;go_wp2_with fail;refine (HN.out _ HB0.out ⟨by omega,by omega,by omega⟩).mono ?_; rintro e w1 ⟨⟨v,rfl,hv⟩,hb⟩
  have HS:=zh (Strs.own hv);have HB1:=zh hb;obtain ⟨pa,pl,pc,rfl⟩:=zqam hv;clear hv hb k0 k1 k2 k3 k4;generalize hW0:w.alloc (SchO (.slice a S.ds.length c) (.slice a2 S.is.length c2) (.slice a3 S.ns.length c3) (.slice a4 S.vs.length c4)) = W0 at *;generalize namesL S = Z at *;have hS:=HS.out;obtain ⟨a',cap',e',h1,h2,h3⟩:=hS;injection e' with e1 e2 e3;subst e1 e2 e3;have HC:=zh h3;clear h3;go_wp2_with fail;go_loopw [4] (fun i wr => ∃ k:Nat,k ≤ Z.length ∧ i = .int .i64 k ∧ Hid (Below w1.heap.size w1 wr) ∧ Hid (∀ j,j < k → nameB (txt Z j) = true)) (fun i _ => Z.length - (intOf i).toNat)
  case atStart => exact ⟨0,Nat.zero_le _,rfl,zh (Below.refl _ _),zh (fun j hj => by omega)⟩
  case round =>
   obtain ⟨k,hk,rfl,HB,HJ⟩:=hrel
   by_cases hlk:k < Z.length
   ·have hlk':(k:Int) < (Z.length:Int):=by omega
    rcases HC.out with h3 | ⟨b,off,rfl,hlt,hcc⟩
    ·rw [h3] at hlk; simp at hlk
    have hx:wr.cell? ⟨b,off + k,none⟩ = some (.string (txt Z k)):=(HB.out.cell (p:=⟨b,off + k,none⟩) hlt).trans (hcc k hlk);have HIk:=zh (HIs.out k hlk);have HGk:=zh (fun q => HG1.out k hlk q)
    have HQ:=zh (fun q:nameB (txt Z k) = true => fun j (hj:j < k + 1) => if e:j = k then (e ▸ q:nameB (txt Z j) = true) else HJ.out j (by omega))
    clear hcc;generalize nameB (txt Z k) = t at *;generalize txt Z k = x at *;go_wp2_with fail;refine (HIk.out _).mono ?_; rintro e w2 ⟨rfl,hb⟩;have HB2:=zh (zqaa HB.out hb);clear hb;cases t with
    | true =>
     have HQ2:=zh (HQ.out rfl);go_wp2_with fail;go_roundw
     case rel => exact ⟨k + 1,by omega,by go_num,HB2,HQ2⟩
     case measure => simp [intOf]; omega
    | false =>
     have HR:=zh (HGk.out rfl);go_wp2_with fail;go_ret;refine ⟨?_,zqaa HB0.out (zqaa HB1.out HB2.out)⟩;rw [HE.out,HR.out]; rfl
   ·have:k = Z.length:=by omega
    subst this;have HGt:=zh (HG0.out HJ.out);have HS2:=zh (HS.out.below HB.out);have HB2:=zh (zqaa HB1.out HB.out);clear HJ HB;go_wp2_with fail;refine (HT.out _ _ HS2.out).mono ?_; rintro e w2 ⟨rfl,hd⟩;have HB3:=zh (zqaa HB2.out hd.below);clear hd
    by_cases ht:0 ≤ tw
    ·go_wp2_with fail;go_ret;refine ⟨?_,zqaa HB0.out HB3.out⟩;rw [HE.out,HGt.out,if_neg (by decide),if_neg (by decide),if_pos ht]; rfl
    ·have HE2:=zh (show checkL S = if sz = false then 2 else if vi = false then 6 else 0 by rw [HE.out,HGt.out,if_neg (by decide),if_neg (by decide),if_neg ht])
     clear HE;have HX2:=zh (HX.out.below HB3.out);have HD2:=zh (HD.out.below (zqaa HB0.out HB3.out));have HV2:=zh (HVs.out.below (zqaa HB0.out HB3.out));clear HC HIs HT HG0 HG1 HS HS2 HN HX HD HVs HH HB2 hlk hk h1 h2;obtain ⟨x0,x1,x2,x3⟩:=HX2.out.reads;have hD:=HD2.out;obtain ⟨a',cap',e',h1,h2,h3⟩:=hD;injection e' with e1 e2 e3;subst e1 e3;have HC:=zh h3;clear h3 e2;go_wp2_with fail;go_loopw [5,6] (fun pv i wr => ∃ k:Nat,k ≤ S.ds.length ∧ i = .int .i64 k ∧ w2 = wr ∧ (∃ p:Int,pv = .int .i64 p ∧ 1 ≤ p ∧ p ≤ 1099511627776 ∧ Hid (p = prodL (S.ds.take k))) ∧ Hid (∀ j,j < k → sizAt S.ds j = true)) (fun _ i _ => S.ds.length - (intOf i).toNat)
     case atStart => exact ⟨0,Nat.zero_le _,rfl,rfl,⟨1,rfl,by decide,by decide,zh rfl⟩,zh (fun j hj => by omega)⟩
     case round =>
      obtain ⟨k,hk,rfl,rfl,⟨p,rfl,hp0,hp1,HPe⟩,HJ⟩:=hrel
      by_cases hlk:k < S.ds.length
      ·have hlk':(k:Int) < (S.ds.length:Int):=by omega
       rcases HC.out with h3 | ⟨b,off,rfl,hlt,hcc⟩
       ·rw [h3] at hlk; simp at hlk
       obtain ⟨c0,c1⟩:=hcc k hlk;have HHk:=zh (fun q => HZ1.out k hlk q)
       have HQ:=zh (fun q:sizAt S.ds k = true => fun j (hj:j < k + 1) => if e:j = k then (e ▸ q:sizAt S.ds j = true) else HJ.out j (by omega))
       have HSk:=zh (show sizAt S.ds k = (decide (1 ≤ dz S.ds k) && decide (dz S.ds k ≤ 4096) && decide (p * dz S.ds k ≤ 1099511627776)) by unfold sizAt; rw [HP.out k hlk,← HPe.out])
       have HE1:=zh (show p * dz S.ds k = prodL (S.ds.take (k + 1)) by rw [HP.out k hlk,← HPe.out])
       have hW:=HWz.out k hlk;clear c0 hcc;generalize dz S.ds k = z at *;generalize sizAt S.ds k = t at *
       by_cases z1:z < 1
       ·have HR:=zh (HHk.out (by rw [HSk.out,decide_eq_false (p:=1 ≤ z) (by omega)]; rfl))
        clear hW;go_wp2_with fail;go_ret;refine ⟨?_,zqaa HB0.out HB3.out⟩;rw [HE2.out,HR.out]; rfl
       ·by_cases z2:4096 < z
        ·have HR:=zh (HHk.out (by rw [HSk.out,decide_eq_false (p:=z ≤ 4096) (by omega)]; simp))
         clear hW;go_wp2_with fail;go_ret;refine ⟨?_,zqaa HB0.out HB3.out⟩;rw [HE2.out,HR.out]; rfl
        ·have hq:=zqev hp0 hp1 (by omega:1 ≤ z) (by omega)
         have i2:IntKind.i64.wrap (p * z) = p * z:=IntWalk.i64_in _ (by omega)
         by_cases z3:1099511627776 < p * z
         ·have HR:=zh (HHk.out (by rw [HSk.out,decide_eq_false (p:=p * z ≤ 1099511627776) (by omega)]; simp))
          clear hW;go_wp2_with fail;go_ret;refine ⟨?_,zqaa HB0.out HB3.out⟩;rw [HE2.out,HR.out]; rfl
         ·have HQ2:=zh (HQ.out (by rw [HSk.out]; simp; omega))
          clear hW;go_wp2_with fail;go_roundw
          case rel => exact ⟨k + 1,by omega,by go_num,by trivial,⟨p * z,rfl,by omega,by omega,HE1⟩,HQ2⟩
          case measure => simp [intOf]; omega
      ·have:k = S.ds.length:=by omega
       have HR:=zh (HZ0.out (by rw [← this]; exact HJ.out))
       have hlk':¬ (k:Int) < (S.ds.length:Int):=by omega
       have HE3:=zh (show checkL S = if vi = false then 6 else 0 by rw [HE2.out,HR.out]; rfl)
       clear this HJ HE2 HZ0 HZ1 HP HWz HC HPe;go_wp2_with fail;refine (HTw.out _).mono ?_; rintro e w3 ⟨rfl,rfl⟩;have hV:=HV2.out;obtain ⟨a',cap',e',h4,h3⟩:=hV;injection e' with e1 e2 e3;subst e1 e3;have HC:=zh h3;clear h3 e2 hlk hlk' hk;go_wp2_with fail;go_loopw [9] (fun i wr => ∃ k:Nat,k ≤ S.vs.length ∧ i = .int .i64 k ∧ Hid (Below w2.heap.size w2 wr) ∧ Hid (∀ j,j < k → vieAt fu S.vs j = true)) (fun i _ => S.vs.length - (intOf i).toNat)
       case atStart => exact ⟨0,Nat.zero_le _,rfl,zh (Below.refl _ _),zh (fun j hj => by omega)⟩
       case round =>
        obtain ⟨k,hk,rfl,HB,HJ⟩:=hrel;obtain ⟨y0,y1,y2,y3⟩:=(HX2.out.below HB.out).reads;clear x0 x1 x2 x3
        by_cases hlk:k < S.vs.length
        ·have hlk':(k:Int) < (S.vs.length:Int):=by omega
         rcases HC.out with h3 | ⟨b,off,rfl,hlt,hcc⟩
         ·rw [h3] at hlk; simp at hlk
         have hx:wr.cell? ⟨b,off + k,none⟩ = some (.int .u32 (S.vs.getD k 0)):=(HB.out.cell (p:=⟨b,off + k,none⟩) hlt).trans (hcc k hlk);have hW:=HWv.out k hlk;have HSk:=zh (fun w => HSu.out w _ hW.1 hW.2)
         have HHk:=zh (fun q => HV1.out k hlk q)
         have HQ:=zh (fun q:vieAt fu S.vs k = true => fun j (hj:j < k + 1) => if e:j = k then (e ▸ q:vieAt fu S.vs j = true) else HJ.out j (by omega))
         have HVk:=zh (HVd.out k);have HB5:=zh (fun n => below_drewN (zqaa HB0.out (zqaa HB3.out HB.out)) n)
         have HB6:=zh (fun n => below_drewN HB.out n)
         generalize vieAt fu S.vs k = t at *
         by_cases z1:fu < S.vs.getD k 0
         ·have HR:=zh (HHk.out (by rw [HVk.out,decide_eq_false (p:=S.vs.getD k 0 < fu) (by omega)]; rfl))
          rw [decide_eq_false (p:=S.vs.getD k 0 < fu + 1) (by omega)] at HSk
          clear HVk HQ;generalize S.vs.getD k 0 = x at *;clear hcc hW;go_upto_region 25 with fail;go_quiet ((go_at_call 37; exact Calls.quiet_of (HSk.out _)));go_wp2_with fail;go_ret;refine ⟨?_,HB5.out nq⟩;rw [HE3.out,HR.out]; rfl
         ·rw [decide_eq_true (p:=S.vs.getD k 0 < fu + 1) (by omega)] at HSk
          by_cases z2:S.vs.getD k 0 = fu
          ·have HR:=zh (HHk.out (by rw [HVk.out,decide_eq_false (p:=S.vs.getD k 0 < fu) (by omega)]; rfl))
           clear HVk HQ z1;rw [z2] at hx HSk;clear hcc hW z2;go_upto_region 25 with fail;go_quiet ((go_at_call 37; exact Calls.quiet_of (HSk.out _)));go_wp2_with fail;go_ret;refine ⟨?_,HB5.out nq⟩;rw [HE3.out,HR.out]; rfl
          ·have z4:(S.vs.getD k 0 == fu) = false:=beq_eq_false_iff_ne.2 z2
           by_cases k0:k = 0
           ·subst k0;have HQ2:=zh (HQ.out (by rw [HVk.out,decide_eq_true (p:=S.vs.getD 0 0 < fu) (by omega)]; rfl))
            have hx:wr.cell? ⟨b,off,none⟩ = some (.int .u32 (S.vs.getD 0 0)):=hx;clear HVk HQ HHk;generalize S.vs.getD 0 0 = x at *;clear hcc hW;go_upto_region 25 with fail;go_quiet ((go_at_call 37; exact Calls.quiet_of (HSk.out _)));go_wp2_with fail;go_roundw
            case rel => exact ⟨0 + 1,by omega,by go_num,zh (HB6.out nq),HQ2⟩
            case measure => simp [intOf]; omega
           ·have hy:wr.cell? ⟨b,off + (k - 1),none⟩ = some (.int .u32 (S.vs.getD (k - 1) 0)):=(HB.out.cell (p:=⟨b,off + (k - 1),none⟩) hlt).trans (hcc (k - 1) (by omega))
            have i1:((k:Int) - 1) = ((k - 1:Nat):Int):=by omega
            have i2:decide ((0:Int) < (k:Int)) = true:=decide_eq_true (by omega)
            have i4:(0 < k) = True:=eq_true (by omega)
            have i3:IntKind.i64.wrap ((k:Int) - 1) = ((k - 1:Nat):Int):=by rw [IntWalk.i64_in _ (by omega)]; omega
            by_cases z3:S.vs.getD k 0 ≤ S.vs.getD (k - 1) 0
            ·have HR:=zh (HHk.out (by rw [HVk.out,decide_eq_false k0,decide_eq_false (p:=S.vs.getD (k - 1) 0 < S.vs.getD k 0) (by omega)]; simp))
             clear HVk HQ;generalize S.vs.getD k 0 = x at *;generalize S.vs.getD (k - 1) 0 = y at *;clear hcc hW;go_upto_region 25 with fail;go_quiet ((go_at_call 37; exact Calls.quiet_of (HSk.out _)));go_wp2_with fail;go_ret;refine ⟨?_,HB5.out nq⟩;rw [HE3.out,HR.out]; rfl
            ·have HQ2:=zh (HQ.out (by rw [HVk.out,decide_eq_true (p:=S.vs.getD k 0 < fu) (by omega),decide_eq_true (p:=S.vs.getD (k - 1) 0 < S.vs.getD k 0) (by omega)]; simp))
             clear HVk HQ HHk;generalize S.vs.getD k 0 = x at *;generalize S.vs.getD (k - 1) 0 = y at *;clear hcc hW;go_upto_region 25 with fail;go_quiet ((go_at_call 37; exact Calls.quiet_of (HSk.out _)));go_wp2_with fail;go_roundw
             case rel => exact ⟨k + 1,by omega,by go_num,zh (HB6.out nq),HQ2⟩
             case measure => simp [intOf]; omega
        ·have hke:k = S.vs.length:=by omega
         have HR:=zh (HV0.out (by rw [← hke]; exact HJ.out))
         have hlk':¬ (k:Int) < (S.vs.length:Int):=by omega
         have HB5:=zh (zqaa HB0.out (zqaa HB3.out HB.out));go_wp2_with fail;go_ret;refine ⟨?_,HB5.out⟩;rw [HE3.out,HR.out]; rfl
 ·have hc2:cntB S = false:=by simpa using hc
  rw [zqcc] at hc;rw [hc2] at HE;clear h hw;go_enter Tryz.func36,Tryz.ntmps36;go_wp2
  all_goals first
   | (exfalso; omega)
   | (go_ret; refine ⟨?_,HB0.out⟩; rw [HE.out]; rfl)
end Go.Proofs.YtmnbljijnbhghaaGreatDoor
