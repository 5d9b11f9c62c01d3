/- Contracts that the law leans on: Nato Natr Natv Awake2 Flom Laid2 Flol Agga Codei. -/
import Derived.Deep.LoopGhost
import Derived.WalkSpells
import Derived.RegionTactic
import Derived.ChangeAlike
import Derived.Laws.IdiomStrings
import Derived.ProofKit
import Derived.LaidMore
import Derived.OpenShut
import Derived.Stop.Joined
import Derived.Lib.LaidTab
import Derived.Laws.BytesArg
import Derived.Test.YtmnbljijnbhghaaGreatDoorRows
import Derived.Test.YtmnbljijnbhghaaGreatDoorPt02
import Derived.Test.YtmnbljijnbhghaaGreatDoorPt07
import Derived.Test.YtmnbljijnbhghaaGreatDoorPt10
namespace Go.Proofs.YtmnbljijnbhghaaGreatDoor
set_option maxRecDepth 100000
open Go.RowKit
set_option linter.unusedVariables false
theorem zqzs {l:List Int} {j:Nat} {x:Int} (h:j < l.length) (n:Nat):wvN (l.set j x) n = wvN l n + if j < n then (x - l.getD j 0) * 4294967296 ^ j else 0:=by
 induction n with
 | zero => simp [wvN]
 | succ n ih =>
  rw [wvN,wvN,ih,zqcz h]
  by_cases e:n = j
  ·subst e; simp [Int.sub_mul]; omega
  ·by_cases hl:j < n
   ·have:j < n + 1:=by omega
    simp [hl,this,e]; omega
   ·have:¬ j < n + 1:=by omega
    simp [hl,this,e]
theorem zqvi {l:List Int} {j:Nat} {x:Int} (h:j < l.length):wv (l.set j x) = wv l + (x - l.getD j 0) * 4294967296 ^ j:=by
 rw [wv,List.length_set,zqzs h,if_pos h]; rfl
def WMulOut (a b:List Int) (i:Nat) (out:List Int):Prop:=wv out = wvN a i * wv b ∧ Wd out ∧ out.length = a.length + b.length ∧ ∀ j,i + b.length ≤ j → out.getD j 0 = 0
def WMulIn (a b:List Int) (i k:Nat) (out:List Int) (c:Int):Prop :=
 wv out + c * 4294967296 ^ (i + k) = wvN a i * wv b + a.getD i 0 * wvN b k * 4294967296 ^ i ∧ Wd out ∧ out.length = a.length + b.length ∧ (∀ j,i + b.length ≤ j → out.getD j 0 = 0) ∧ 0 ≤ c ∧ c ≤ 4294967295
theorem WMulOut.enter {a b out:List Int} {i:Nat} (h:WMulOut a b i out):WMulIn a b i 0 out 0:=by
 obtain ⟨h1,h2,h3,h4⟩:=h;exact ⟨by simp [wvN,h1],h2,h3,h4,by omega,by omega⟩
theorem zqn7 (n:Nat):wv (List.replicate n (0:Int)) = 0:=by
 have h:wv (List.replicate n (0:Int)) = wv []:=zqdl (fun i => by simp [List.getD,List.getElem?_replicate]; split <;> simp)
 rw [h]; rfl
theorem WMulOut.start (a b:List Int):WMulOut a b 0 (List.replicate (a.length + b.length) 0):=by
 refine ⟨by simp [wvN,zqn7],fun x hx => ?_,by simp,fun j _ => ?_⟩
 ·have:=List.eq_of_mem_replicate hx; omega
 ·simp [List.getD,List.getElem?_replicate]; split <;> simp
theorem zqhv {x y:Int} (h1:0 ≤ x) (h2:x ≤ 4294967295) (h3:0 ≤ y) (h4:y ≤ 4294967295):0 ≤ x * y ∧ x * y ≤ 18446744065119617025:=by
 refine ⟨Int.mul_nonneg h1 h3,?_⟩
 calc x * y ≤ 4294967295 * y:=Int.mul_le_mul_of_nonneg_right h2 h3
  _ ≤ 4294967295 * 4294967295:=Int.mul_le_mul_of_nonneg_left h4 (by omega)
theorem WMulIn.step {a b out:List Int} {i k:Nat} {c:Int} (h:WMulIn a b i k out c) (ha:Wd a) (hb:Wd b) (hi:i < a.length) (hk:k < b.length) (o x y:Int) (ho:out.getD (i + k) 0 = o) (hx:a.getD i 0 = x) (hy:b.getD k 0 = y) :
  WMulIn a b i (k + 1) (out.set (i + k) ((x * y + o + c) % 4294967296)) ((x * y + o + c) / 4294967296):=by
 obtain ⟨h1,h2,h3,h4,h5,h6⟩:=h;have hj:i + k < out.length:=by omega
 have o1:=h2.getD (i + k);have x1:=ha.getD i;have y1:=hb.getD k;rw [ho] at o1;rw [hx] at x1;rw [hy] at y1;have hm:=zqhv x1.1 x1.2 y1.1 y1.2;refine ⟨?_,h2.set (by omega) (by omega),by simp [h3],fun j hj2 => ?_,by omega,by omega⟩
 ·have e0:i + (k + 1) = (i + k) + 1:=by omega
  rw [zqvi hj,ho,wvN,hy,e0,zqd9,hx];rw [hx] at h1;have e1:=zqe9 (x * y + o + c) (4294967296 ^ (i + k));have e2:(x * y + o + c) * 4294967296 ^ (i + k) = x * y * 4294967296 ^ (i + k) + o * 4294967296 ^ (i + k) + c * 4294967296 ^ (i + k):=by rw [Int.add_mul,Int.add_mul]
  have e3:((x * y + o + c) % 4294967296 - o) * 4294967296 ^ (i + k) = (x * y + o + c) % 4294967296 * 4294967296 ^ (i + k) - o * 4294967296 ^ (i + k):=Int.sub_mul _ _ _;have e4:x * (wvN b k + y * 4294967296 ^ k) * 4294967296 ^ i = x * wvN b k * 4294967296 ^ i + x * y * 4294967296 ^ (i + k):=by
   rw [Int.mul_add,Int.add_mul,Int.pow_add,Int.mul_comm (4294967296 ^ i:Int) (4294967296 ^ k),← Int.mul_assoc x y (4294967296 ^ k),Int.mul_assoc (x * y)]
  omega
 ·rw [zqcz hj,if_neg (by omega)]; exact h4 j hj2
theorem WMulIn.leave {a b out:List Int} {i:Nat} {c:Int} (h:WMulIn a b i b.length out c) (hi:i < a.length):WMulOut a b (i + 1) (out.set (i + b.length) c):=by
 obtain ⟨h1,h2,h3,h4,h5,h6⟩:=h;have hj:i + b.length < out.length:=by omega
 refine ⟨?_,h2.set h5 h6,by simp [h3],fun j hj2 => ?_⟩
 ·rw [zqvi hj,h4 _ (Nat.le_refl _),wvN];have e1:(c - 0) * 4294967296 ^ (i + b.length) = c * 4294967296 ^ (i + b.length):=by simp
  have e2:(wvN a i + a.getD i 0 * 4294967296 ^ i) * wv b = wvN a i * wv b + a.getD i 0 * wvN b b.length * 4294967296 ^ i:=by
   rw [Int.add_mul,Int.mul_assoc,Int.mul_assoc,Int.mul_comm (4294967296 ^ i:Int)]; rfl
  omega
 ·rw [zqcz hj,if_neg (by omega)]; exact h4 j (by omega)
theorem WMulOut.stop {a b out:List Int} (h:WMulOut a b a.length out):wv out = wv a * wv b:=h.1
set_option maxHeartbeats 2000000 in
theorem zqww (u v:Value) (a b:List Int) (w:World) (hu:WList w u a) (hv:WList w v b) (la:a.length ≤ 274877906944) (lb:b.length ≤ 274877906944) :
  Calls Tryz.prog 144 #[u,v] w (Fresh w (wv a * wv b) (a.length + b.length)):=by
 obtain ⟨i0,hi,hz0,hz1,hz2⟩:=info_parts Tryz.infoU32;obtain ⟨p,c,rfl⟩:=hu.shape;obtain ⟨q,d,rfl⟩:=hv.shape;have HA:=zh hu;have HB:=zh hv;clear hu hv;go_enter Tryz.func144,Tryz.ntmps144;go_wp2_with (at_make; refine wpList_make_full _ rfl _ _ 24 rfl w.heap.size 27 i0 (.int .u32 0) 1 Tryz.underlying24 hi hz0 hz1 .i64 .i64 _ _ (a.length + b.length) rfl rfl (by omega) (by omega) (by rw [hz2]; omega) (by unfold maxLen; omega) (by simp) ?_; intro w0 hown hgrow)
 have hF:=zh (zqbw rfl hown hgrow);clear hown hgrow;go_wp2_with fail;go_loopw [18] (fun i wr => ∃ (k:Nat) (out:List Int),k ≤ a.length ∧ i = .int .i64 k ∧ Hid (WMulOut a b k out) ∧ Hid (Fill w w.heap.size (a.length + b.length) out wr)) (fun i _ => a.length - (intOf i).toNat)
 case atStart => exact ⟨0,_,Nat.zero_le _,rfl,zh (WMulOut.start a b),hF⟩
 case round =>
  obtain ⟨k,out,hk,rfl,hO,hS⟩:=hrel;clear hF
  by_cases hlt:k < a.length
  ·obtain ⟨wo,rfl⟩:∃ wo:World,wo = wr:=⟨_,rfl⟩
   go_wp2_with fail;go_loopw [7,23] (fun c i wr => ∃ (j:Nat) (o2:List Int) (cr:Int),j ≤ b.length ∧ c = .int .u64 cr ∧ i = .int .i64 j ∧ Hid (WMulIn a b k j o2 cr) ∧ 0 ≤ cr ∧ cr ≤ 4294967295 ∧
     Hid (Fill w w.heap.size (a.length + b.length) o2 wr)) (fun _ i _ => b.length - (intOf i).toNat)
   case atStart => exact ⟨0,out,0,Nat.zero_le _,rfl,rfl,zh hO.out.enter,by omega,by omega,hS⟩
   case round =>
    obtain ⟨j,o2,cr,hj,rfl,rfl,hI,cr0,cr1,hT⟩:=hrel;clear hS hO;have hlen:=zh hI.out.2.2.1
    by_cases hjl:j < b.length
    ·have hkj:k + j < o2.length:=by have:=hlen.out; omega
     obtain ⟨hc1,hf1⟩:=hT.out.cells hkj;obtain ⟨pb,po,hp1,hpb,hpa⟩:=HA.out.1.cell hlt;obtain ⟨qb,qo,hq1,hqb,hqa⟩:=HB.out.1.cell hjl;subst hp1 hq1;have hpa:=cell_later hT.out.2 hpa;have hqa:=cell_later hT.out.2 hqa;have ox:=hI.out.2.1.getD (k + j);have ax:=HA.out.2.1.getD k;have bx:=HB.out.2.1.getD j;have hst:=zh (fun (o x y:Int) (ho:o2.getD (k + j) 0 = o) (hx:a.getD k 0 = x) (hy:b.getD j 0 = y) => hI.out.step HA.out.2.1 HB.out.2.1 hlt hjl o x y ho hx hy)
     generalize o2.getD (k + j) 0 = o at *;generalize a.getD k 0 = x at *;generalize b.getD j 0 = y at *;have hst2:=zh (hst.out o x y rfl rfl rfl);have hTT:=zh (fun (n:Nat) (z:Int) => (hT.out.drewN n).set (k + j) z)
     obtain ⟨o1,o9⟩:=ox;obtain ⟨m1,m2⟩:=zqhv ax.1 ax.2 bx.1 bx.2;obtain ⟨x1,x2⟩:=ax;obtain ⟨y1,y2⟩:=bx;clear hst hI hT hpb hqb hkj;have hB1:(0:Int) ≤ (k:Int):=by omega
     have hB2:(k:Int) < (a.length:Int):=by omega
     have hB3:(0:Int) ≤ (j:Int):=by omega
     have hB4:(j:Int) < (b.length:Int):=by omega
     have hB5:(0:Int) ≤ (k:Int) + (j:Int):=by omega
     have hB6:(k:Int) + (j:Int) < (a.length:Int) + (b.length:Int):=by omega
     have e1:IntKind.i64.wrap ((k:Int) + (j:Int)) = (k:Int) + (j:Int):=IntWalk.i64_in _ (by omega)
     have e5:((k:Int) + (j:Int)).toNat = k + j:=by omega
     have e6:IntKind.u64.wrap x = x:=by rw [IntKind.wrap_u64]; omega
     have e7:IntKind.u64.wrap y = y:=by rw [IntKind.wrap_u64]; omega
     have e8:IntKind.u64.wrap o = o:=by rw [IntKind.wrap_u64]; omega
     have e2:IntKind.u64.wrap (x * y) = x * y:=by rw [IntKind.wrap_u64]; omega
     have e3:IntKind.u64.wrap (x * y + o) = x * y + o:=by rw [IntKind.wrap_u64]; omega
     have e4:IntKind.u64.wrap (x * y + o + cr) = x * y + o + cr:=by rw [IntKind.wrap_u64]; omega
     go_wp2_with fail;go_quiet (fail);have hs0:0 ≤ x * y + o + cr:=by omega
     have hs1:x * y + o + cr ≤ 18446744073709551615:=by omega
     clear e1 e2 e3 e4 e5 e6 e7 e8 hB5 hB6 m1 m2 o1 o9;generalize x * y + o + cr = t at *;go_wp2_with fail;go_roundw
     case rel => exact ⟨j + 1,_,t / 4294967296,by omega,rfl,by go_num,hst2,by omega,by omega,zh (hTT.out nq (t % 4294967296))⟩
     case measure => simp [intOf]; omega
    ·obtain rfl:j = b.length:=by omega
     have hO2:=zh (hI.out.leave hlt);have hkj:k + b.length < o2.length:=by have:=hlen.out; omega
     obtain ⟨hc1,hf1⟩:=hT.out.cells hkj;have hT2:=zh (hT.out.set (k + b.length) cr);clear hI hT;go_wp2_with fail;go_roundw
     case rel => exact ⟨k + 1,_,by omega,by go_num,hO2,hT2⟩
     case measure => simp [intOf]; omega
  ·obtain rfl:k = a.length:=by omega
   have hlen:=hO.out.2.2.1;have hW:=zh (hS.out.1.wlist hO.out.2.1 (by omega))
   have HS:=zh (zqbh _ _ _ _ _ hW.out.1 (by omega))
   rw [hlen] at HS;have HL:=zh hlen;clear hlen hW;go_wp2_with fail;refine (HS.out).mono ?_; rintro e w' ⟨u1,n,rfl,hc,rfl⟩;go_wp2_with fail;go_ret;exact zqd3 hS.out hO.out.2.1 (by have:=HL.out; omega) hO.out.stop (by have:=HL.out; omega) hc
set_option maxRecDepth 100000
open Go.RowKit
set_option linter.unusedVariables false
def RaiseRel (a:List Int) (W R i:Nat) (out:List Int):Prop :=
 wvN out (i + W + 1) = wvN a i * (2 ^ R * 4294967296 ^ W) ∧ Wd out ∧ out.length = a.length + W + 1 ∧ (∀ j,i + W + 1 ≤ j → out.getD j 0 = 0) ∧ out.getD (i + W) 0 < 2 ^ R
theorem RaiseRel.start (a:List Int) (W R:Nat):RaiseRel a W R 0 (List.replicate (a.length + W + 1) 0):=by
 have hz:∀ j,(List.replicate (a.length + W + 1) (0:Int)).getD j 0 = 0:=fun j => by simp [List.getD,List.getElem?_replicate]; split <;> simp
 refine ⟨?_,Wd.zeros _,by simp,fun j _ => hz j,?_⟩
 ·have:=zqe3 (a:=List.replicate (a.length + W + 1) (0:Int)) (b:=[]) (n:=0 + W + 1) (fun i _ => by rw [hz]; rfl)
  rw [this];have e:∀ n,wvN [] n = 0:=fun n => by
   induction n with
   | zero => rfl
   | succ n ih => rw [wvN,ih]; simp
  rw [e]; simp [wvN]
 ·rw [hz]; exact Int.pow_pos (by decide)
theorem zqux (x:Int) (R:Nat) (hR:R < 32) (x0:0 ≤ x) (x1:x ≤ 4294967295) :
  ∃ m h:Nat,IntKind.u64.wrap (x * 2 ^ R) % 4294967296 = ((2 ^ R * m:Nat):Int) ∧ IntKind.u64.wrap (x * 2 ^ R) / 4294967296 % 4294967296 = (h:Int) ∧ h < 2 ^ R ∧ 2 ^ R * m + 2 ^ R ≤ 4294967296 ∧ x * 2 ^ R = ((2 ^ R * m:Nat):Int) + 4294967296 * (h:Int):=by
 obtain ⟨X,rfl⟩:=Int.eq_ofNat_of_zero_le x0;obtain ⟨S,hS⟩:∃ S,32 = R + S:=⟨32 - R,by omega⟩
 have hQ:4294967296 = 2 ^ R * 2 ^ S:=by rw [← Nat.pow_add,← hS]
 have hP:0 < 2 ^ R:=Nat.two_pow_pos R;have hP':0 < 2 ^ S:=Nat.two_pow_pos S;have e:X = 2 ^ S * (X / 2 ^ S) + X % 2 ^ S:=(Nat.div_add_mod X (2 ^ S)).symm;have hm:X % 2 ^ S < 2 ^ S:=Nat.mod_lt _ hP';have hh:X / 2 ^ S < 2 ^ R:=by
  refine Nat.div_lt_of_lt_mul ?_;rw [Nat.mul_comm,← hQ]; omega
 have hx:X * 2 ^ R = 2 ^ R * (X % 2 ^ S) + 4294967296 * (X / 2 ^ S):=by
  conv => lhs; rw [e]
  rw [Nat.add_mul,hQ,Nat.mul_comm (X % 2 ^ S),Nat.add_comm,Nat.mul_comm (2 ^ S) (X / 2 ^ S),Nat.mul_assoc,Nat.mul_comm (2 ^ S) (2 ^ R),Nat.mul_comm (X / 2 ^ S)]
 have h1:2 ^ R * (X % 2 ^ S) + 2 ^ R ≤ 4294967296:=by
  have:2 ^ R * (X % 2 ^ S + 1) ≤ 2 ^ R * 2 ^ S:=Nat.mul_le_mul_left _ hm;rw [Nat.mul_add,← hQ] at this; omega
 have hr:2 ^ R ≤ 2 ^ 31:=Nat.pow_le_pow_right (by omega) (by omega)
 refine ⟨X % 2 ^ S,X / 2 ^ S,?_,?_,hh,h1,?_⟩
 all_goals
  have hc:(X:Int) * 2 ^ R = ((X * 2 ^ R:Nat):Int):=by simp
  rw [hc,hx]
 ·rw [IntKind.wrap_u64]; omega
 ·rw [IntKind.wrap_u64]; omega
 ·omega
theorem RaiseRel.step {a out:List Int} {W R i:Nat} (ha:Wd a) (h:RaiseRel a W R i out) (hi:i < a.length) (hR:R < 32) (x o:Int) (hx:a.getD i 0 = x) (ho:out.getD (i + W) 0 = o) :
  RaiseRel a W R (i + 1) ((out.set (i + W) (bits BinOp.or IntKind.u32 o (IntKind.u64.wrap (x * 2 ^ R) % 4294967296))).set (i + W + 1) (IntKind.u64.wrap (x * 2 ^ R) / 4294967296 % 4294967296)):=by
 obtain ⟨h1,h2,h3,h4,h5⟩:=h;have hxr:=ha.getD i;have hor:=h2.getD (i + W);rw [hx] at hxr;rw [ho] at hor h5;obtain ⟨m,hi',e1,e2,e3,e4,e5⟩:=zqux x R hR hxr.1 hxr.2;obtain ⟨O,rfl⟩:=Int.eq_ofNat_of_zero_le hor.1;have hO:O < 2 ^ R:=by
  have:((2 ^ R:Nat):Int) = (2:Int) ^ R:=by simp
  omega
 have hr:2 ^ R ≤ 2 ^ 31:=Nat.pow_le_pow_right (by omega) (by omega)
 rw [e1,e2,zqty m O R hO (by omega)]
 have hL:i + W < out.length:=by omega
 refine ⟨?_,(h2.set (by omega) (by omega)).set (by omega) (by omega),by simp; omega,fun j hj => ?_,?_⟩
 ·rw [show i + 1 + W + 1 = (i + W + 1) + 1 from by omega,zqbx (by simp; omega),zqbx hL]
  rw [wvN,ho] at h1;rw [wvN,hx,zqd9,Int.add_mul,← h1];have k1:x * 4294967296 ^ i * (2 ^ R * 4294967296 ^ W) = x * 2 ^ R * 4294967296 ^ (i + W):=by
   rw [Int.pow_add,Int.mul_assoc,Int.mul_assoc,← Int.mul_assoc (4294967296 ^ i:Int),Int.mul_comm (4294967296 ^ i:Int) (2 ^ R),Int.mul_assoc]
  rw [k1,e5];have k2:((2 ^ R * m + O:Nat):Int) * 4294967296 ^ (i + W) = ((2 ^ R * m:Nat):Int) * 4294967296 ^ (i + W) + (O:Int) * 4294967296 ^ (i + W):=by rw [Int.natCast_add,Int.add_mul]
  have k3:(((2 ^ R * m:Nat):Int) + 4294967296 * (hi':Int)) * 4294967296 ^ (i + W) = ((2 ^ R * m:Nat):Int) * 4294967296 ^ (i + W) + (hi':Int) * (4294967296 ^ (i + W) * 4294967296):=by
   rw [Int.add_mul,Int.mul_comm 4294967296 (hi':Int),Int.mul_assoc,Int.mul_comm (4294967296:Int) (4294967296 ^ (i + W))]
  omega
 ·rw [zqbz (by omega),zqbz (by omega)]; exact h4 j (by omega)
 ·rw [show i + 1 + W = i + W + 1 from by omega,zqf5 (by simp; omega)]
  have:((2 ^ R:Nat):Int) = (2:Int) ^ R:=by simp
  omega
theorem RaiseRel.stop {a out:List Int} {W R:Nat} (h:RaiseRel a W R a.length out):wv out = wv a * (2 ^ R * 4294967296 ^ W) ∧ Wd out ∧ out.length = a.length + W + 1:=by
 obtain ⟨h1,h2,h3,h4,h5⟩:=h;refine ⟨?_,h2,h3⟩;rw [← zqcb out (n:=a.length + W + 1) (by omega),h1]; rfl
def Raised (w:World) (z:Int) (L:Nat) (e:Ending) (w':World):Prop :=
 ∃ out,e = .returned (.slice (some ⟨w.heap.size,0,none⟩) L L) ∧ Fill w w.heap.size L out w' ∧ Wd out ∧ out.length = L ∧ wv out = z
set_option maxHeartbeats 2000000 in
theorem zquf (u:Value) (a:List Int) (w:World) (hu:WList w u a) (la:a.length ≤ 274877906944) (n W R:Nat) (hn:n = 32 * W + R) (hR:R < 32) (hW:W ≤ 1000000) :
  Calls Tryz.prog 209 #[u,.int .i64 n] w (Raised w (wv a * (2 ^ R * 4294967296 ^ W)) (a.length + W + 1)):=by
 obtain ⟨i0,hi,hz0,hz1,hz2⟩:=info_parts Tryz.infoU32;obtain ⟨p,c,rfl⟩:=hu.shape;have HA:=zh hu;clear hu;have hq:(n:Int) / 32 = (W:Int):=by omega
 have hr:(n:Int) % 32 = (R:Int):=by omega
 have hn0:n ≤ 40000000:=by omega
 clear hn;go_enter Tryz.func209,Tryz.ntmps209;go_wp2_with (at_make; refine wpList_make_full _ rfl _ _ 24 rfl w.heap.size 27 i0 (.int .u32 0) 1 Tryz.underlying24 hi hz0 hz1 .i64 .i64 _ _ (a.length + W + 1) rfl rfl (by omega) (by omega) (by rw [hz2]; omega) (by unfold maxLen; omega) (by simp) ?_; intro w0 hown hgrow)
 have hF:=zh (zqbw rfl hown hgrow);clear hown hgrow;go_wp2_with fail;go_loopw [22] (fun i wr => ∃ (k:Nat) (out:List Int),k ≤ a.length ∧ i = .int .i64 k ∧ Hid (RaiseRel a W R k out) ∧ Hid (Fill w w.heap.size (a.length + W + 1) out wr)) (fun i _ => a.length - (intOf i).toNat)
 case atStart => exact ⟨0,_,Nat.zero_le _,rfl,zh (RaiseRel.start a W R),hF⟩
 case round =>
  obtain ⟨k,out,hk,rfl,hO,hS⟩:=hrel;clear hF;have hlen:=zh hO.out.2.2.1;clear hq hr
  by_cases hlt:k < a.length
  ·obtain ⟨ho1,ho2⟩:=hS.out.cells (j:=k + W) (by have:=hlen.out; omega)
   obtain ⟨hh1,hh2⟩:=hS.out.cells (j:=k + W + 1) (by have:=hlen.out; omega)
   obtain ⟨pb,po,hp1,hpb,hpa⟩:=HA.out.1.cell hlt;subst hp1;have hpa:=cell_later hS.out.2 hpa;have ox:=hO.out.2.1.getD (k + W);have ax:=HA.out.2.1.getD k;have hst:=zh (fun (x o:Int) (hx:a.getD k 0 = x) (ho:out.getD (k + W) 0 = o) => hO.out.step HA.out.2.1 hlt hR x o hx ho)
   generalize a.getD k 0 = x at *;generalize out.getD (k + W) 0 = o at *;have hst2:=zh (hst.out x o rfl rfl);have hSS:=zh (fun (y z:Int) => (hS.out.set (k + W) y).set (k + W + 1) z)
   clear hst hO hS hpb;obtain ⟨x1,x2⟩:=ax;obtain ⟨o1,o9⟩:=ox;have hB5:(0:Int) ≤ (k:Int) + (W:Int):=by omega
   have hB6:(k:Int) + (W:Int) < (a.length:Int) + (W:Int) + 1:=by omega
   have e5:((k:Int) + (W:Int)).toNat = k + W:=by omega
   have e6:((k:Int) + (W:Int) + 1).toNat = k + W + 1:=by omega
   go_wp2_with fail;go_roundw
   case rel => exact ⟨k + 1,_,by omega,by go_num,hst2,zh (hSS.out _ _)⟩
   case measure => simp [intOf]; omega
  ·obtain rfl:k = a.length:=by omega
   have hE:=zh hO.out.stop;clear hO;go_wp2_with fail;go_ret;exact ⟨out,rfl,hS.out,hE.out.2.1,hE.out.2.2,hE.out.1⟩
set_option maxRecDepth 100000
open Go.RowKit
set_option linter.unusedVariables false
set_option maxHeartbeats 1000000 in
theorem zqzd (u:Value) (a:List Int) (w:World) (hu:WList w u a) (la:a.length ≤ 274877906944) (n:Nat) (hn:n ≤ 8192) :
  Calls Tryz.prog 195 #[u,.int .i64 n] w (FreshOk w (wv a * 2 ^ n) (a.length + n / 32 + 1)):=by
 have hz:wv a * (2 ^ (n % 32) * 4294967296 ^ (n / 32)) = wv a * 2 ^ n:=by
  rw [pow32,← Int.pow_add]; congr 2; omega
 have HR:=zh (zquf u a w hu la n (n / 32) (n % 32) (by omega) (by omega) (by omega))
 rw [hz] at HR;have hd:n / 32 ≤ 1000:=by omega
 generalize n / 32 = W at *;have h1:¬ (n:Int) < 0:=by omega
 have h2:¬ 8192 < (n:Int):=by omega
 clear hz hu;go_enter Tryz.func195,Tryz.ntmps195;go_wp2_with fail;refine (HR.out).mono ?_; rintro e w1 ⟨out,rfl,hF,hd1,hl,hv⟩;have hW:=zh (hF.1.wlist hd1 (by omega))
 have HS:=zh (zqbh _ _ _ _ _ hW.out.1 (by omega))
 rw [hl] at HS;have HF:=zh hF;have HD:=zh hd1;have HL:=zh hl;have HV:=zh hv;clear hF hd1 hl hv hW;go_wp2_with fail;refine (HS.out).mono ?_; rintro e w' ⟨u1,m,rfl,hc,rfl⟩;rw [← HL.out] at hc;go_wp2_with fail;go_ret2;exact ⟨_,rfl,zqd3 HF.out HD.out (by have:=HL.out; omega) HV.out (by have:=HL.out; omega) (by rw [HL.out] at hc; exact hc)⟩
end Go.Proofs.YtmnbljijnbhghaaGreatDoor
namespace Go.Proofs.YtmnbljijnbhghaaGreatDoor
set_option maxRecDepth 100000
open Go.RowKit
set_option linter.unusedVariables false
def Only (g:Nat) (w w':World):Prop:=w'.os = w.os ∧ w'.tape = w.tape ∧ w'.output = w.output ∧ w'.heap.size = w.heap.size ∧ ∀ k,k ≠ g → w'.heap[k]? = w.heap[k]?
theorem Only.refl (g:Nat) (w:World):Only g w w:=⟨rfl,rfl,rfl,rfl,fun _ _ => rfl⟩
theorem Only.below {g B:Nat} {w w':World} (h:Only g w w') (hB:B ≤ g):Below B w w':=⟨h.1,h.2.1,h.2.2.1,by rw [h.2.2.2.1]; exact Nat.le_refl _,fun k hk => h.2.2.2.2 k (by omega)⟩
theorem Only.drewN {g:Nat} {w w':World} (h:Only g w w') (n:Nat):Only g w (w'.drewN n):=by
 have hb:=below_drewN (Below.refl w'.heap.size w') n;refine ⟨hb.os.trans h.1,hb.tape.trans h.2.1,hb.output.trans h.2.2.1,?_,fun k hk => ?_⟩
 ·show (w'.drewN n).heap.size = _
  rw [show (w'.drewN n).heap = w'.heap from World.heap_drewN _ _]; exact h.2.2.2.1
 ·rw [show (w'.drewN n).heap = w'.heap from World.heap_drewN _ _]; exact h.2.2.2.2 k hk
theorem Only.set {g:Nat} {w w':World} (h:Only g w w') (j:Nat) (x:Value):Only g w (w'.setCell ⟨g,j,none⟩ x):=by
 have hb:=(Below.refl 0 w').setCell (p:=⟨g,j,none⟩) (Nat.zero_le _) x;refine ⟨hb.os.trans h.1,hb.tape.trans h.2.1,hb.output.trans h.2.2.1,?_,fun k hk => ?_⟩
 ·rw [← h.2.2.2.1]; simp [World.setCell]
 ·rw [Below.heap_setCell _ _ _ _ (by simpa using hk)]; exact h.2.2.2.2 k hk
theorem Only.row {g B E:Nat} {w w':World} {v:Value} {n:Nat} {xs:List Value} (h:Only g w w') (hr:w.ownsRow B E 1 v n xs) (hne:v.ownBlock ≠ some g):w'.ownsRow B E 1 v n xs:=by
 obtain ⟨h1,h2⟩:=hr;refine ⟨h1,?_⟩;rcases h2 with h2 | ⟨g',cap,cur,rfl,q1,q2,q3⟩
 ·exact .inl h2
 ·refine .inr ⟨g',cap,cur,rfl,q1,?_,q3⟩;rw [h.2.2.2.2 g' (by intro e; subst e; exact hne rfl)]; exact q2
set_option maxRecDepth 100000
open Go.RowKit
set_option linter.unusedVariables false
theorem IsNat.own {w:World} {B:Nat} {v:Value} {a:List Int} (h:w.ownsRow B 27 1 v a.length (a.map (Value.int .u32))) (hd:Wd a) (ht:Tidy a) (hl:a.length ≤ 1099511627776):IsNat w v (wv a):=⟨a,zqa4 h hd hl,ht,rfl⟩
set_option maxRecDepth 100000
open Go.RowKit
set_option linter.unusedVariables false
theorem zqpa {z:Int} (h0:0 < z):z < 2 ^ bitsZ z:=by
 obtain ⟨Z,rfl⟩:=Int.eq_ofNat_of_zero_le (Int.le_of_lt h0);have hz:(Z:Int) ≠ 0:=by omega
 rw [bitsZ,if_neg hz,Int.toNat_natCast];have:=Nat.lt_log2_self (n:=Z);have e:((2 ^ (Nat.log2 Z + 1):Nat):Int) = (2:Int) ^ (Nat.log2 Z + 1):=by simp
 omega
theorem zqx6 {z:Int} (h0:0 < z):2 ^ (bitsZ z - 1) ≤ z:=by
 obtain ⟨Z,rfl⟩:=Int.eq_ofNat_of_zero_le (Int.le_of_lt h0);have hz:(Z:Int) ≠ 0:=by omega
 rw [bitsZ,if_neg hz,Int.toNat_natCast,Nat.add_sub_cancel];have:=Nat.log2_self_le (n:=Z) (by omega)
 have e:((2 ^ Nat.log2 Z:Nat):Int) = (2:Int) ^ Nat.log2 Z:=by simp
 omega
theorem zqlk {m n:Nat} (h:m ≤ n):(2:Int) ^ m ≤ 2 ^ n:=by
 have:=Nat.pow_le_pow_right (n:=2) (by decide) h
 have e1:((2 ^ m:Nat):Int) = (2:Int) ^ m:=by simp
 have e2:((2 ^ n:Nat):Int) = (2:Int) ^ n:=by simp
 omega
theorem zqsa {z:Int} (h0:0 < z):0 < bitsZ z:=by
 rw [bitsZ,if_neg (by omega)]; omega
end Go.Proofs.YtmnbljijnbhghaaGreatDoor
namespace Go.Proofs.YtmnbljijnbhghaaGreatDoor
set_option maxRecDepth 100000
open Go.RowKit
set_option linter.unusedVariables false
theorem room47w {n:Nat} (h:n ≤ 1099511627776):(n + 1) * 4 ≤ 140737488355328:=by omega
set_option maxRecDepth 100000
open Go.RowKit
set_option linter.unusedVariables false
set_option maxRecDepth 100000
open Go.RowKit
set_option linter.unusedVariables false
set_option maxRecDepth 100000
open Go.RowKit
set_option linter.unusedVariables false
def v10:List Int → Int
 | [] => 0
 | d :: t => d + 10 * v10 t
end Go.Proofs.YtmnbljijnbhghaaGreatDoor
namespace Go.Proofs.YtmnbljijnbhghaaGreatDoor
set_option maxRecDepth 100000
open Go.RowKit
set_option linter.unusedVariables false
theorem zqly {x:Int} {t:List Int} (h:Tidy (x :: t)):Tidy t:=by
 by_cases e:t = []
 ·exact .inl e
 ·refine .inr ?_;have h1:=h.resolve_left (by simp)
  have hl:0 < t.length:=List.length_pos_iff.2 e;have e2:(x :: t).getD ((x :: t).length - 1) 0 = t.getD (t.length - 1) 0:=by
   obtain ⟨n,hn⟩:∃ n,t.length = n + 1:=⟨t.length - 1,by omega⟩
   simp [List.getD,hn]
  rw [e2] at h1; exact h1
theorem zqpz (x:Int) (t:List Int):wv (x :: t) = x + 4294967296 * wv t:=by
 have:=zqha (a:=x :: t) (by simp)
 simpa using this
theorem zqbb:∀ {a b:List Int},Wd a → Wd b → Tidy a → Tidy b → wv a = wv b → a = b
 | [],b,_,hb,_,tb,h => by
  have:=(tb.wzero hb).1 (by rw [← h]; rfl)
  exact this.symm
 | x :: t,[],ha,_,ta,_,h => (ta.wzero ha).1 (by rw [h]; rfl)
 | x :: t,y :: s,ha,hb,ta,tb,h => by
  rw [zqpz,zqpz] at h;have hx:=ha x (by simp)
  have hy:=hb y (by simp)
  have e:x = y:=by omega
  have e2:wv t = wv s:=by omega
  rw [e,zqbb (fun z hz => ha z (List.mem_cons_of_mem _ hz)) (fun z hz => hb z (List.mem_cons_of_mem _ hz)) (zqly ta) (zqly tb) e2]
theorem IsNat.list {w:World} {v:Value} {z:Int} {l:List Int} (h:IsNat w v z) (hd:Wd l) (ht:Tidy l) (hz:wv l = z):WList w v l:=by
 obtain ⟨a,h1,h2,h3⟩:=h;have:=zqbb h1.2.1 hd h2 ht (by rw [h3,hz])
 rw [← this]; exact h1
theorem zql7 {z:Int} {m n:Nat} (h:Halved z m) (k:Halved z n):m = n:=by
 have key:∀ (m n a b:Nat),m < n → (2:Int) ^ m * (2 * a + 1) = 2 ^ n * (2 * b + 1) → False:=fun m n a b hmn e => by
  obtain ⟨d,rfl⟩:∃ d,n = m + d + 1:=⟨n - m - 1,by omega⟩
  rw [show m + d + 1 = m + (d + 1) from rfl,Int.pow_add,Int.mul_assoc] at e;have hp:(2:Int) ^ m ≠ 0:=by have:(0:Int) < 2 ^ m:=Int.pow_pos (by decide); omega
  have e2:=Int.eq_of_mul_eq_mul_left hp e;rw [Int.pow_succ,Int.mul_comm (2 ^ d) 2,Int.mul_assoc] at e2;omega
 have pos:∀ (n a:Nat),(2:Int) ^ n * (2 * a + 1) ≠ 0:=fun n a e => by
  have:(0:Int) < 2 ^ n * (2 * a + 1):=Int.mul_pos (Int.pow_pos (by decide)) (by omega)
  omega
 rcases h with ⟨h1,h2⟩ | ⟨a,h1⟩
 ·rcases k with ⟨k1,k2⟩ | ⟨b,k1⟩
  ·omega
  ·exact absurd (k1.symm.trans h1) (pos n b)
 ·rcases k with ⟨k1,k2⟩ | ⟨b,k1⟩
  ·exact absurd (h1.symm.trans k1) (pos m a)
  ·rcases Nat.lt_trichotomy m n with q | q | q
   ·exact (key m n a b q (h1.symm.trans k1)).elim
   ·exact q
   ·exact (key n m b a q (k1.symm.trans h1)).elim
end Go.Proofs.YtmnbljijnbhghaaGreatDoor
namespace Go.Proofs.YtmnbljijnbhghaaGreatDoor
set_option maxRecDepth 100000
open Go.RowKit
set_option linter.unusedVariables false
def rndN (z n:Nat):Nat:=if 2 ^ n < 2 * (z % 2 ^ n) ∨ (2 ^ n = 2 * (z % 2 ^ n) ∧ z / 2 ^ n % 2 = 1) then z / 2 ^ n + 1 else z / 2 ^ n
set_option maxRecDepth 100000
open Go.RowKit
set_option linter.unusedVariables false
def rU (L:Nat) (e:Int):Int:=max ((L:Int) + e - 53) (-1074)
def rN (z L:Nat) (e:Int):Nat:=if rU L e ≤ e then z * 2 ^ (e - rU L e).toNat else rndN z (rU L e - e).toNat
def nearW (z:Nat) (e:Int):Nat:=if z = 0 ∨ e + bitsZ z < -1074 then 0 else if 1024 < e + bitsZ z then 9218868437227405312 else Ieee.double.nearest false (rN z (bitsZ z) e) (rU (bitsZ z) e)
theorem zqhg {z:Nat} (h0:z ≠ 0):z < 2 ^ bitsZ z:=by
 have:=zqpa (z:=(z:Int)) (by omega)
 have e:((2 ^ bitsZ z:Nat):Int) = (2:Int) ^ bitsZ z:=by simp
 omega
end Go.Proofs.YtmnbljijnbhghaaGreatDoor
namespace Go.Proofs.YtmnbljijnbhghaaGreatDoor
set_option maxRecDepth 100000
open Go.ChangeShapes Go.WideShapes Go.ChangeAt Go.RowKit
set_option linter.unusedVariables false
theorem own2:ownKnob Tryz.prog.godebug = none:=by kernel_rfl
theorem laidOut2:laidOutB Tryz.prog = true:=by kernel_rfl
theorem gTab : Tryz.prog.globalNamed "math/bits.deBruijn32tab" = some 1 := by kernel_rfl
theorem tTab:(Tryz.prog.globals[1]?).map (·.type) = some 248:=by kernel_rfl
def tabInts:List Int:=[0,1,28,2,29,14,24,3,30,22,20,15,25,17,4,8,31,27,13,23,21,19,16,7,26,12,18,6,11,5,10,9]
end Go.Proofs.YtmnbljijnbhghaaGreatDoor
namespace Go.Proofs.YtmnbljijnbhghaaGreatDoor
set_option maxRecDepth 100000
open Go.RowKit Go.ChangeShapes Go.WideShapes Go.ChangeAt
set_option linter.unusedVariables false
abbrev laid3 : List (String × DataW Unit) := [("math/bits.deBruijn32tab", Rows.laid_math_bits_deBruijn32tab), ("math/bits.deBruijn64tab", Rows.laid_math_bits_deBruijn64tab)]
theorem gTab64 : Tryz.prog.globalNamed "math/bits.deBruijn64tab" = some 2 := by kernel_rfl
theorem tTab64:(Tryz.prog.globals[2]?).map (·.type) = some 254:=by kernel_rfl
theorem zqm4 {P:Program} {name:String} {d:DataW Unit} {rest:List (String × DataW Unit)} {W:World} (h:laidMet P ((name,d) :: rest) W):laidMet P rest W:=by
 obtain ⟨ps,⟨g,t,cs,fuel,p,q,hg,ht,hv,hd,h1,h2⟩,hn,hall⟩:=h;subst h2;exact ⟨q,h1,(List.nodup_append.1 hn).2.1,fun b off hm => hall b off (List.mem_append_right _ hm)⟩
def tabInts64:List Int:=[0,1,56,2,57,49,28,3,61,58,42,50,38,29,17,4,62,47,59,36,45,43,51,22,53,39,33,30,24,18,12,5,63,55,48,27,60,41,37,16,46,35,44,21,52,32,23,11,54,26,40,15,34,20,31,10,25,14,19,9,13,8,7,6]
theorem zqzn {W:World} (h:laidMetH Tryz.prog laid3 W):Tab W:=by
 rw [MakeChecks.laidMetH_plain _ _ _ (by kernel_rfl)] at h
 have h1 : Lib.TabIs Tryz.prog W "math/bits.deBruijn32tab" .u8 tabInts :=
  Lib.tabIs_of_head (n:=32) gTab tTab Tryz.underlying248 Tryz.underlying5 (by kernel_rfl) (by kernel_rfl) h
 intro j hj;have hj2:j < tabInts.length:=hj;rw [h1.cell gTab j hj2];have key:∀ k:Fin 32,tabInts.getD k.val 0 = ((Lib.deBruijn32tab.getD k.val 0:Nat):Int):=by decide
 rw [key ⟨j,hj⟩]
theorem zqu2 {W:World} (h:laidMetH Tryz.prog laid3 W):Tab64 W:=by
 rw [MakeChecks.laidMetH_plain _ _ _ (by kernel_rfl)] at h
 have h1 : Lib.TabIs Tryz.prog W "math/bits.deBruijn64tab" .u8 tabInts64 :=
  Lib.tabIs_of_head (n:=64) (rest:=[]) gTab64 tTab64 Tryz.underlying254 Tryz.underlying5 (by kernel_rfl) (by kernel_rfl) (zqm4 h)
 intro j hj;have hj2:j < tabInts64.length:=hj;rw [h1.cell gTab64 j hj2];have key:∀ k:Fin 64,tabInts64.getD k.val 0 = ((Lib.deBruijn64tab.getD k.val 0:Nat):Int):=by decide
 rw [key ⟨j,hj⟩]
theorem zqsp (os:Os) (args:Array Value):laidMetH Tryz.prog laid3 ((World.doorLaid Tryz.prog 800 os).forCall (fun _ _ => 0) ⟨#[],args,[]⟩).memory :=
 laidMetH_of_parts3 (fuel:=8) (laidMet_of_run' 8 (by kernel_rfl) (by kernel_rfl)) (by kernel_rfl) (by kernel_rfl)
end Go.Proofs.YtmnbljijnbhghaaGreatDoor
namespace Go.Proofs.YtmnbljijnbhghaaGreatDoor
set_option maxRecDepth 100000
open Go.RowKit
set_option linter.unusedVariables false
structure Wh where
 sum:Int
 abs:Int
 sq:List Int
 mn:Int
 mx:Int
structure Re where
 sum:List Int
 mn:Nat
 mx:Nat
structure Ce where
 key:Int
 cnt:Int
 is:List Wh
 ns:List Re
def wh0:Wh:=⟨0,0,[],0,0⟩
def re0:Re:=⟨[],0,0⟩
def wg (l:List Wh) (i:Nat):Wh:=l.getD i wh0
def rg (l:List Re) (i:Nat):Re:=l.getD i re0
theorem zqaq {l:List Wh} {i:Nat} (h:i < l.length):wg l i = l[i]:=by simp [wg,List.getD,List.getElem?_eq_getElem h]
theorem zqap {l:List Re} {i:Nat} (h:i < l.length):rg l i = l[i]:=by simp [rg,List.getD,List.getElem?_eq_getElem h]
structure WhAt (w:World) (b o:Nat) (q:Value) (x:Wh):Prop where
 c0:w.cell? ⟨b,o,none⟩ = some (.int .i64 x.sum)
 c1:w.cell? ⟨b,o + 1,none⟩ = some (.int .i64 x.abs)
 c2:w.cell? ⟨b,o + 2,none⟩ = some q
 c3:w.cell? ⟨b,o + 3,none⟩ = some (.int .i64 x.mn)
 c4:w.cell? ⟨b,o + 4,none⟩ = some (.int .i64 x.mx)
 s:Ints .u32 w q x.sq
structure ReAt (w:World) (b o:Nat) (q:Value) (x:Re):Prop where
 c0:w.cell? ⟨b,o,none⟩ = some q
 c1:w.cell? ⟨b,o + 1,none⟩ = some (.float .f64 x.mn)
 c2:w.cell? ⟨b,o + 2,none⟩ = some (.float .f64 x.mx)
 s:Ints .u8 w q x.sum
theorem WhAt.below {w w':World} {b o:Nat} {q:Value} {x:Wh} (h:WhAt w b o q x) (hb:Below w.heap.size w w'):WhAt w' b o q x :=
 ⟨cell_later hb h.c0,cell_later hb h.c1,cell_later hb h.c2,cell_later hb h.c3,cell_later hb h.c4,h.s.below hb⟩
theorem ReAt.below {w w':World} {b o:Nat} {q:Value} {x:Re} (h:ReAt w b o q x) (hb:Below w.heap.size w w'):ReAt w' b o q x :=
 ⟨cell_later hb h.c0,cell_later hb h.c1,cell_later hb h.c2,h.s.below hb⟩
def Wholes (w:World) (v:Value) (l:List Wh):Prop :=
 ∃ a cap,v = .slice a l.length cap ∧ l.length ≤ cap ∧ l.length ≤ 9223372036854775807 ∧ (l = [] ∨ ∃ b off,a = some ⟨b,off,none⟩ ∧ b < w.heap.size ∧ ∀ i,i < l.length → ∃ q,WhAt w b (off + i * 5) q (wg l i))
def Reals (w:World) (v:Value) (l:List Re):Prop :=
 ∃ a cap,v = .slice a l.length cap ∧ l.length ≤ cap ∧ l.length ≤ 9223372036854775807 ∧ (l = [] ∨ ∃ b off,a = some ⟨b,off,none⟩ ∧ b < w.heap.size ∧ ∀ i,i < l.length → ∃ q,ReAt w b (off + i * 3) q (rg l i))
theorem Wholes.below {w w':World} {v:Value} {l:List Wh} (h:Wholes w v l) (hb:Below w.heap.size w w'):Wholes w' v l:=by
 obtain ⟨a,cap,rfl,h1,h2,h3⟩:=h;refine ⟨a,cap,rfl,h1,h2,h3.imp id ?_⟩;rintro ⟨b,off,rfl,hlt,hc⟩;exact ⟨b,off,rfl,Nat.lt_of_lt_of_le hlt hb.size,fun i hi => (hc i hi).imp fun q h => h.below hb⟩
theorem Reals.below {w w':World} {v:Value} {l:List Re} (h:Reals w v l) (hb:Below w.heap.size w w'):Reals w' v l:=by
 obtain ⟨a,cap,rfl,h1,h2,h3⟩:=h;refine ⟨a,cap,rfl,h1,h2,h3.imp id ?_⟩;rintro ⟨b,off,rfl,hlt,hc⟩;exact ⟨b,off,rfl,Nat.lt_of_lt_of_le hlt hb.size,fun i hi => (hc i hi).imp fun q h => h.below hb⟩
theorem Wholes.at {w:World} {a:Option Addr} {n cap:Nat} {l:List Wh} (h:Wholes w (.slice a n cap) l) {i:Nat} (hi:i < l.length):∃ b off q,a = some ⟨b,off,none⟩ ∧ WhAt w b (off + i * 5) q (wg l i):=by
 obtain ⟨a',cap',e,-,-,h3⟩:=h;injection e with e1 e2 e3;subst e1;rcases h3 with h3 | ⟨b,off,rfl,-,hc⟩
 ·rw [h3] at hi; cases hi
 ·obtain ⟨q,hq⟩:=hc i hi; exact ⟨b,off,q,rfl,hq⟩
theorem Reals.at {w:World} {a:Option Addr} {n cap:Nat} {l:List Re} (h:Reals w (.slice a n cap) l) {i:Nat} (hi:i < l.length):∃ b off q,a = some ⟨b,off,none⟩ ∧ ReAt w b (off + i * 3) q (rg l i):=by
 obtain ⟨a',cap',e,-,-,h3⟩:=h;injection e with e1 e2 e3;subst e1;rcases h3 with h3 | ⟨b,off,rfl,-,hc⟩
 ·rw [h3] at hi; cases hi
 ·obtain ⟨q,hq⟩:=hc i hi; exact ⟨b,off,q,rfl,hq⟩
abbrev CeV (c:Ce) (I N:Value):Value:=.agg #[.int .u64 c.key,.int .i64 c.cnt,I,N]
abbrev CeO (c:Ce) (I N:Value):Obj:=.cells #[.int .u64 c.key,.int .i64 c.cnt,I,N] 38
structure CeM (w:World) (I N:Value) (c:Ce):Prop where
 i:Wholes w I c.is
 n:Reals w N c.ns
theorem CeM.below {w w':World} {I N:Value} {c:Ce} (h:CeM w I N c) (hb:Below w.heap.size w w'):CeM w' I N c:=⟨h.i.below hb,h.n.below hb⟩
theorem CeM.slices {w:World} {I N:Value} {c:Ce} (h:CeM w I N c):(∃ a k,I = .slice a c.is.length k) ∧ ∃ a k,N = .slice a c.ns.length k:=by
 obtain ⟨⟨a,k,h1,-⟩,⟨a2,k2,h2,-⟩⟩:=h;exact ⟨⟨a,k,h1⟩,a2,k2,h2⟩
def I64 (x:Int):Prop:=-9223372036854775808 ≤ x ∧ x ≤ 9223372036854775807
structure WhW (x:Wh):Prop where
 sum:I64 x.sum
 abs:I64 x.abs
 sq:∀ z ∈ x.sq,0 ≤ z ∧ z ≤ 4294967295
 len:x.sq.length ≤ 9223372036854775807
 mn:I64 x.mn
 mx:I64 x.mx
structure ReW (x:Re):Prop where
 sum:Bt x.sum
 len:x.sum.length ≤ 9223372036854775807
 mn:W64 x.mn
 mx:W64 x.mx
structure CeW (c:Ce):Prop where
 key:0 ≤ c.key ∧ c.key ≤ 18446744073709551615
 cnt:I64 c.cnt
 is:∀ x ∈ c.is,WhW x
 ns:∀ x ∈ c.ns,ReW x
theorem CeW.wg {c:Ce} (h:CeW c) {i:Nat} (hi:i < c.is.length):WhW (wg c.is i):=by rw [zqaq hi]; exact h.is _ (List.getElem_mem hi)
theorem CeW.rg {c:Ce} (h:CeW c) {i:Nat} (hi:i < c.ns.length):ReW (rg c.ns i):=by rw [zqap hi]; exact h.ns _ (List.getElem_mem hi)
def BoxC (w:World) (B:Nat) (c:Ce) (I N:Value):Prop:=w.heap[B]? = some (.cells #[.int .u64 c.key,.int .i64 c.cnt,I,N] 38 (0,0))
theorem BoxC.reads {w:World} {B:Nat} {c:Ce} {I N:Value} (h:BoxC w B c I N):w.cell? ⟨B,0,none⟩ = some (.int .u64 c.key) ∧ w.cell? ⟨B,1,none⟩ = some (.int .i64 c.cnt) ∧ w.cell? ⟨B,2,none⟩ = some I ∧ w.cell? ⟨B,3,none⟩ = some N:=by
 unfold BoxC at h;refine ⟨by simp [World.cell?,h],by simp [World.cell?,h],by simp [World.cell?,h],by simp [World.cell?,h]⟩
theorem BoxC.below {w w':World} {B:Nat} {c:Ce} {I N:Value} (h:BoxC w B c I N) (hb:Below w.heap.size w w'):BoxC w' B c I N:=by
 unfold BoxC at *; rw [hb.block B (Array.getElem?_eq_some_iff.1 h).1]; exact h
theorem zqbe (w:World) (c:Ce) (I N:Value):BoxC (w.alloc (CeO c I N)) w.heap.size c I N:=heap_alloc_new w _
def lightC (c:Ce):Bool:=decide (c.is.length ≤ 10) && decide (c.ns.length ≤ 10) && ((List.range c.is.length).all fun k => decide ((wg c.is k).sq.length ≤ 20)) && (List.range c.ns.length).all fun k => decide ((rg c.ns k).sum.length ≤ 300)
theorem zqeq {c:Ce}:lightC c = true ↔ c.is.length ≤ 10 ∧ c.ns.length ≤ 10 ∧ (∀ k,k < c.is.length → (wg c.is k).sq.length ≤ 20) ∧ ∀ k,k < c.ns.length → (rg c.ns k).sum.length ≤ 300:=by
 simp [lightC,and_assoc]
theorem zqwu {c:Ce} (h:¬ (c.is.length ≤ 10 ∧ c.ns.length ≤ 10 ∧ (∀ k,k < c.is.length → (wg c.is k).sq.length ≤ 20) ∧ ∀ k,k < c.ns.length → (rg c.ns k).sum.length ≤ 300)):lightC c = false:=by
 cases e:lightC c with
 | false => rfl
 | true => exact absurd (zqeq.1 e) h
set_option maxHeartbeats 2000000 in
theorem zqrk (w:World) (c:Ce) (I N:Value) (h:CeM w I N c) :
  Calls Tryz.prog 32 #[CeV c I N] w fun e w' => e = .returned (.bool (lightC c)) ∧ Below w.heap.size w w':=by
 have HB0:=zh (zqab w (CeO c I N));have HX:=zh (zqbe w c I N);have HI:=zh (h.i.below HB0.out);have HN:=zh (h.n.below HB0.out);obtain ⟨⟨p,k1,rfl⟩,p2,k2,rfl⟩:=h.slices;have HY:=zh (@zqeq c);have HF:=zh (@zqwu c);clear h;generalize lightC c = R at *;go_enter Tryz.func32,Tryz.ntmps32;go_upto_region 1 with fail;generalize w.alloc (CeO c (.slice p c.is.length k1) (.slice p2 c.ns.length k2)) = W at *;obtain ⟨x0,x1,x2,x3⟩:=HX.out.reads
 by_cases h1:10 < c.is.length
 ·have hR:=HF.out (fun q => by omega)
  subst hR;go_wp2_with fail;go_ret;exact ⟨rfl,HB0.out⟩
 ·by_cases h2:10 < c.ns.length
  ·have hR:=HF.out (fun q => by omega)
   subst hR;go_wp2_with fail;go_ret;exact ⟨rfl,HB0.out⟩
  ·have HLn:=zh (And.intro (show c.is.length ≤ 10 by omega) (show c.ns.length ≤ 10 by omega))
   go_wp2_with fail;go_loopw [3] (fun i wr => ∃ k:Nat,k ≤ c.is.length ∧ i = .int .i64 k ∧ W = wr ∧ Hid (∀ j,j < k → (wg c.is j).sq.length ≤ 20)) (fun i _ => c.is.length - (intOf i).toNat)
   case atStart => exact ⟨0,Nat.zero_le _,rfl,rfl,zh (fun j hj => by omega)⟩
   case round =>
    obtain ⟨k,hk,rfl,rfl,HJ⟩:=hrel
    by_cases hlk:k < c.is.length
    ·have hlk':(k:Int) < (c.is.length:Int):=by omega
     obtain ⟨b,off,q,rfl,hq⟩:=HI.out.at hlk;have g2:=hq.c2;obtain ⟨qa,qc,rfl,-,-⟩:=hq.s;have hle:Hid (k + 1 ≤ c.is.length):=zh (by omega)
     clear hq
     by_cases hs:20 < (wg c.is k).sq.length
     ·have hR:=HF.out (fun q => by have:=q.2.2.1 k hlk; omega)
      subst hR;generalize (wg c.is k).sq.length = sl at *;go_wp2_with fail;go_ret;exact ⟨rfl,HB0.out⟩
     ·have HJ2:=zh (show ∀ j,j < k + 1 → (wg c.is j).sq.length ≤ 20 from fun j hj => if e:j = k then by subst e; omega else HJ.out j (by omega))
      generalize (wg c.is k).sq.length = sl at *;go_wp2_with fail;go_roundw
      case rel => exact ⟨k + 1,hle.out,by go_num,by trivial,HJ2⟩
      case measure => simp [intOf]; omega
    ·have:k = c.is.length:=by omega
     subst this;go_wp2_with fail;go_loopw [4] (fun i wr => ∃ k:Nat,k ≤ c.ns.length ∧ i = .int .i64 k ∧ W = wr ∧ Hid (∀ j,j < k → (rg c.ns j).sum.length ≤ 300)) (fun i _ => c.ns.length - (intOf i).toNat)
     case atStart => exact ⟨0,Nat.zero_le _,rfl,rfl,zh (fun j hj => by omega)⟩
     case round =>
      obtain ⟨k,hk,rfl,rfl,HJ3⟩:=hrel
      by_cases hlk:k < c.ns.length
      ·have hlk':(k:Int) < (c.ns.length:Int):=by omega
       obtain ⟨b,off,q,rfl,hq⟩:=HN.out.at hlk;have g0:=hq.c0;obtain ⟨qa,qc,rfl,-,-⟩:=hq.s;have hle:Hid (k + 1 ≤ c.ns.length):=zh (by omega)
       clear hq
       by_cases hs:300 < (rg c.ns k).sum.length
       ·have hR:=HF.out (fun q => by have:=q.2.2.2 k hlk; omega)
        subst hR;generalize (rg c.ns k).sum.length = sl at *;go_wp2_with fail;go_ret;exact ⟨rfl,HB0.out⟩
       ·have HJ2:=zh (show ∀ j,j < k + 1 → (rg c.ns j).sum.length ≤ 300 from fun j hj => if e:j = k then by subst e; omega else HJ3.out j (by omega))
        generalize (rg c.ns k).sum.length = sl at *;go_wp2_with fail;go_roundw
        case rel => exact ⟨k + 1,hle.out,by go_num,by trivial,HJ2⟩
        case measure => simp [intOf]; omega
      ·have:k = c.ns.length:=by omega
       subst this;have hR:R = true:=HY.out.2 ⟨HLn.out.1,HLn.out.2,HJ.out,HJ3.out⟩;subst hR;go_wp2_with fail;go_ret;exact ⟨rfl,HB0.out⟩
end Go.Proofs.YtmnbljijnbhghaaGreatDoor
namespace Go.Proofs.YtmnbljijnbhghaaGreatDoor
set_option maxRecDepth 100000
open Go.RowKit
set_option linter.unusedVariables false
set_option maxRecDepth 100000
open Go.RowKit
set_option linter.unusedVariables false
set_option maxRecDepth 100000
open Go.RowKit
set_option linter.unusedVariables false
set_option maxRecDepth 100000
open Go.RowKit
set_option linter.unusedVariables false
def strB (l:List Int):ByteArray:=⟨(l.map fun x => UInt8.ofNat x.toNat).toArray⟩
theorem zqel {w:World} {v:Value} {l:List Int} (h:Ints .u8 w v l) (hb:Bt l):(convert 87 9 v).run Tryz.prog w = .ok (.string (strB l)) w:=by
 obtain ⟨a,cap,rfl,-,h0 | ⟨b,off,rfl,hbl,hcell⟩⟩:=h
 ·subst h0;show (convert 87 9 (.slice a 0 cap)).run Tryz.prog w = _
  rw [run_convert_bytes_string w 87 9 5 _ 0 cap Tryz.underlying87 Tryz.underlying5 Tryz.underlying9];cases a <;> simp [Conv.bytesToString,loadCells]
  all_goals rfl
 have hlen:(l.map fun x => UInt8.ofNat x.toNat).length = l.length:=by simp
 have:=run_convert_bytes_back (P:=Tryz.prog) w 87 9 5 ⟨b,off,none⟩ cap (l.map fun x => UInt8.ofNat x.toNat) Tryz.underlying87 Tryz.underlying5 Tryz.underlying9 (fun j hj => by
  have hj2:j < l.length:=by simpa using hj
  have hc:=hcell j hj2;have hm:=hb _ (List.getElem_mem hj2);have e:l.getD j 0 = (((l.map fun x => UInt8.ofNat x.toNat)[j]).toNat:Int):=by
   rw [List.getElem_map,UInt8.toNat_ofNat_of_lt' (by show _ < 256; omega),List.getD,List.getElem?_eq_getElem hj2]
   show l[j] = _
   omega
  rw [e] at hc
  by_cases h0:j = 0
  ·subst h0; simpa [Addr.add] using hc
  ·simpa [Addr.add,h0] using hc)
 rw [hlen] at this;exact this
theorem zqtg {x:Nat} (hx:W64 x):Keyed (keyI x):=by
 unfold W64 at hx;unfold keyI Keyed
 split
 ·left; rfl
 ·rename_i hn;have hn:isNaNB x = false:=by simpa using hn
  unfold isNaNB at hn;rw [decide_eq_false_iff_not] at hn
  split
  ·rename_i hg;unfold negB at hg;rw [decide_eq_true_iff] at hg;right; omega
  ·rename_i hg;unfold negB at hg;rw [decide_eq_true_iff] at hg;right; omega
end Go.Proofs.YtmnbljijnbhghaaGreatDoor
