/- Contracts that the law leans on: Codem. -/
import Derived.Lib.Bytealg
import Derived.Test.YtpgchfihedcdkaaGreatDoorGt02
import Derived.Test.YtpgchfihedcdkaaGreatDoorGt08
import Derived.Test.YtpgchfihedcdkaaGreatDoorGt09
namespace Go.Proofs.YtpgchfihedcdkaaGreatDoor
set_option maxRecDepth 100000
open Go.RowKit
set_option linter.unusedVariables false
theorem zqtl {w:World} {h:Int} {t:List Int} {b off cap:Nat} (hv:Ints .u8 w (.slice (some ⟨b,off,none⟩) (t.length + 1) cap) (h :: t)):∀ i,i < t.length → w.cell? ⟨b,off + (i + 1),none⟩ = some (.int .u8 (t.getD i 0)):=fun i hi => by
 obtain ⟨a,c,e,hcc,hh⟩:=hv;rcases hh with h0 | ⟨b',off',e',h1,hc⟩
 ·cases h0
 ·cases e'; cases e
  have:=hc (i + 1) (by simp; omega)
  rw [List.getD_cons_succ] at this;exact this
set_option maxHeartbeats 8000000 in
theorem zqcj (v:Value) (b:List Int) (w:World) (hv:Ints .u8 w v b) (hb:Bt b) (hl:b.length ≤ 1099511627775) :
  Calls Tryz.prog 236 #[v] w fun e w' => e = .returned (trip (getU b)) ∧ w = w':=by
 cases b with
 | nil =>
  obtain ⟨a,cap,rfl,hcap,-⟩:=hv;go_enter Tryz.func236,Tryz.ntmps236;go_wp2_with fail;exact bodyPost_ret (v:=.tuple #[.int .u64 0,.int .i64 0,.int .i64 5]) (by simp [results,Tryz.results236,go_sem]) rfl ⟨rfl,rfl⟩
 | cons h t =>
  have HBt:=zh hb;obtain ⟨h0,h255⟩:=hb.head;obtain ⟨bb,off,cap,rfl,hcap,hbl,hcell⟩:=zqcg hv;have HCell:=zh (zqtl hv);have i0:((t.length:Int) + 1 == 0) = false:=by simp; omega
  have i1:IntKind.i64.wrap h = h:=IntWalk.i64_in _ (by omega)
  have i5:IntKind.i64.wrap (h + 1) = h + 1:=IntWalk.i64_in _ (by omega)
  simp only [List.length_cons] at hl;clear hb hv
  by_cases h8:h ≤ 8
  ·obtain ⟨n,rfl⟩:=Int.eq_ofNat_of_zero_le h0;have hn8:n ≤ 8:=by omega
   have i2:¬ (8:Int) < (n:Int):=by omega
   by_cases hn:n = 0
   ·subst hn;have HE:=zh (show getU (((0:Nat):Int) :: t) = (0,1,0) by rw [zqba,if_neg (by simp)]; rfl)
    have hcell:w.cell? ⟨bb,off,none⟩ = some (.int .u8 0):=hcell;have i4:¬ (t.length:Int) + 1 < 1:=by omega
    go_enter Tryz.func236,Tryz.ntmps236;go_wp2_with fail;go_loopw [6,7] (fun xv iv wr => xv = .int .u64 0 ∧ iv = .int .i64 1 ∧ w = wr) (fun _ iv _ => 0)
    case atStart => exact ⟨rfl,rfl,rfl⟩
    case round =>
     obtain ⟨rfl,rfl,rfl⟩:=hrel;go_wp2_with fail;exact bodyPost_ret (v:=.tuple #[.int .u64 0,.int .i64 1,.int .i64 0]) (by simp [results,Tryz.results236,go_sem]) rfl ⟨by rw [HE.out]; rfl,by trivial⟩
   ·have i3:(0:Int) < (n:Int):=by omega
    by_cases ht:t.length = 0
    ·have HBad:=zh (show ¬ (8 < (n:Int) ∨ (0 < (n:Int) ∧ t.getD 0 1 = 0)) by obtain rfl:=List.length_eq_zero_iff.1 ht; simp; omega)
     have i6:¬ (1:Int) < (t.length:Int) + 1:=by omega
     have hlen:t.length < n:=by omega
     have HE:=zh (show getU ((n:Int) :: t) = (0,0,5) by rw [zqba,if_neg HBad.out,Int.toNat_natCast,if_pos hlen])
     have i4:(t.length:Int) + 1 < (n:Int) + 1:=by omega
     go_enter Tryz.func236,Tryz.ntmps236;go_wp2_with fail;exact bodyPost_ret (v:=.tuple #[.int .u64 0,.int .i64 0,.int .i64 5]) (by simp [results,Tryz.results236,go_sem]) rfl ⟨by rw [HE.out]; rfl,by trivial⟩
    ·have i6:(1:Int) < (t.length:Int) + 1:=by omega
     have hc1:=HCell.out 0 (by omega)
     have e1:t.getD 0 1 = t.getD 0 0:=by simp [List.getD,List.getElem?_eq_getElem (show 0 < t.length by omega)]
     by_cases hz:t.getD 0 0 = 0
     ·rw [hz] at hc1;have HE:=zh (show getU ((n:Int) :: t) = (0,0,6) by rw [zqba,if_pos (.inr ⟨i3,by rw [e1]; exact hz⟩)])
      clear hz e1;go_enter Tryz.func236,Tryz.ntmps236;go_wp2_with fail;exact bodyPost_ret (v:=.tuple #[.int .u64 0,.int .i64 0,.int .i64 6]) (by simp [results,Tryz.results236,go_sem]) rfl ⟨by rw [HE.out]; rfl,by trivial⟩
     ·have HBad:=zh (show ¬ (8 < (n:Int) ∨ (0 < (n:Int) ∧ t.getD 0 1 = 0)) by rw [e1]; omega)
      have i7:(t.getD 0 0 == 0) = false:=by simpa using hz
      clear hz e1;generalize t.getD 0 0 = c0 at *
      by_cases hlen:t.length < n
      ·have HE:=zh (show getU ((n:Int) :: t) = (0,0,5) by rw [zqba,if_neg HBad.out,Int.toNat_natCast,if_pos hlen])
       have i4:(t.length:Int) + 1 < (n:Int) + 1:=by omega
       go_enter Tryz.func236,Tryz.ntmps236;go_wp2_with fail;exact bodyPost_ret (v:=.tuple #[.int .u64 0,.int .i64 0,.int .i64 5]) (by simp [results,Tryz.results236,go_sem]) rfl ⟨by rw [HE.out]; rfl,by trivial⟩
      ·have HE:=zh (show getU ((n:Int) :: t) = (fillN t 0 n,n + 1,0) by rw [zqba,if_neg HBad.out,Int.toNat_natCast,if_neg hlen])
       have i4:¬ (t.length:Int) + 1 < (n:Int) + 1:=by omega
       go_enter Tryz.func236,Tryz.ntmps236;go_wp2_with fail;go_loopw [6,7] (fun xv iv wr => ∃ k:Nat,k ≤ n ∧ xv = .int .u64 (fillN t 0 k) ∧ iv = .int .i64 ((k:Int) + 1) ∧ w = wr) (fun _ iv _ => n + 1 - (intOf iv).toNat)
       case atStart => exact ⟨0,Nat.zero_le _,rfl,rfl,rfl⟩
       case round =>
        obtain ⟨k,hk,rfl,rfl,rfl⟩:=hrel
        by_cases hlt:k < n
        ·have j1:(k:Int) + 1 ≤ (n:Int):=by omega
         obtain ⟨p1,p2,p3,p4,p5⟩:=zqbu HBt.out.tail (f:=0) (by decide) (by decide) hlt hn8 rfl
         have HP1:=zh p1;have hc:=HCell.out k (by omega)
         clear p1;generalize t.getD k 0 = c at *;generalize fillN t 0 k = x at *;have j2:(k:Int) + 1 < (t.length:Int) + 1:=by omega
         have j3:(0:Int) ≤ (k:Int) + 1:=by omega
         have hw1:IntKind.u64.wrap (x * 256) = x * 256:=by rw [IntKind.wrap_u64]; omega
         have hw2:IntKind.u64.wrap (x * 256 + c) = x * 256 + c:=by rw [IntKind.wrap_u64]; omega
         have hw3:IntKind.u64.wrap c = c:=by rw [IntKind.wrap_u64]; omega
         go_wp2_with fail;go_roundw
         case rel => exact ⟨k + 1,by omega,by rw [HP1.out],by go_num,by trivial⟩
         case measure => simp [intOf] <;> omega
        ·obtain rfl:k = n:=by omega
         have j1:¬ (k:Int) + 1 ≤ (k:Int):=by omega
         generalize fillN t 0 k = x at *;go_wp2_with fail;exact bodyPost_ret (v:=.tuple #[.int .u64 x,.int .i64 ((k:Int) + 1),.int .i64 0]) (by simp [results,Tryz.results236,go_sem]) rfl ⟨by rw [HE.out]; rfl,by trivial⟩
  ·have i2:(8:Int) < h:=by omega
   have HE:=zh (show getU (h :: t) = (0,0,6) by rw [zqba,if_pos (.inl i2)])
   go_enter Tryz.func236,Tryz.ntmps236;go_wp2_with fail;exact bodyPost_ret (v:=.tuple #[.int .u64 0,.int .i64 0,.int .i64 6]) (by simp [results,Tryz.results236,go_sem]) rfl ⟨by rw [HE.out]; rfl,by trivial⟩
set_option maxRecDepth 100000
open Go.RowKit
set_option linter.unusedVariables false
theorem zqkr (k:Int) (w:World) (h0:0 ≤ k) (h1:k ≤ 18446744073709551615) :
  Calls Tryz.prog 264 #[.int .u64 k] w fun e w' => e = .returned (.bool (decide (Keyed k))) ∧ w = w':=by
 by_cases e:k = 18446744073709551615
 ·subst e;have hR:=zh (show decide (Keyed 18446744073709551615) = true by decide)
  go_enter Tryz.func264,Tryz.ntmps264;go_wp2_with fail;go_ret;exact ⟨by rw [hR.out]; rfl,rfl⟩
 ·have i1:(k == 18446744073709551615) = false:=by simpa using e
  by_cases a:(4503599627370495:Int) ≤ k
  ·by_cases b:k ≤ (18442240474082181120:Int)
   ·have hR:=zh (show decide (Keyed k) = true by rw [decide_eq_true_iff]; exact .inr ⟨a,b⟩)
    go_enter Tryz.func264,Tryz.ntmps264;go_wp2_with fail;go_ret;exact ⟨by rw [hR.out]; rfl,rfl⟩
   ·have hR:=zh (show decide (Keyed k) = false by rw [decide_eq_false_iff_not]; unfold Keyed; omega)
    go_enter Tryz.func264,Tryz.ntmps264;go_wp2_with fail;go_ret;exact ⟨by rw [hR.out]; rfl,rfl⟩
  ·have hR:=zh (show decide (Keyed k) = false by rw [decide_eq_false_iff_not]; unfold Keyed; omega)
   go_enter Tryz.func264,Tryz.ntmps264;go_wp2_with fail;go_ret;exact ⟨by rw [hR.out]; rfl,rfl⟩
def pairF (r:Int × Nat):Value:=.tuple #[.int .u64 r.1,.int .i64 (r.2:Nat)]
set_option maxHeartbeats 8000000 in
theorem zqwn (v:Value) (b:List Int) (w:World) (hv:Ints .u8 w v b) (hb:Bt b) (hl:b.length ≤ 1099511627775) :
  Calls Tryz.prog 238 #[v] w fun e w' => e = .returned (pairF (getF b)) ∧ Drawn w w':=by
 have HV:=zh hv;have HBt:=zh hb;obtain ⟨a,cap,rfl,hcap,-⟩:=hv;have r0:=zqam hb (f:=0) (by decide) (by decide) 8
 have r1:=zqam hb (f:=255) (by decide) (by decide) 8
 have e8:(256:Int) ^ 8 = 18446744073709551616:=by decide
 rw [e8] at r0 r1;have HR:=zh (And.intro r0 r1);have HE:=zh (show getF b = (if 8 ≤ b.length then (if Keyed (fillN b 0 8) then (fillN b 0 8,0) else (0,6))
  else if Keyed (fillN b 0 8) ∨ Keyed (fillN b 255 8) ∨ (fillN b 0 8 < 9223372036854775808 ∧ 9223372036854775808 ≤ fillN b 255 8) then (0,5) else (0,6)) from rfl)
 generalize getF b = R at *;clear r0 r1 e8 hb;go_enter Tryz.func238,Tryz.ntmps238;go_wp2_with fail;go_loopw [4,5,6] (fun xv yv iv wr => ∃ k:Nat,k ≤ 8 ∧ xv = .int .u64 (fillN b 0 k) ∧ yv = .int .u64 (fillN b 255 k) ∧ iv = .int .i64 k ∧ Hid (Drawn w wr)) (fun _ _ iv _ => 8 - (intOf iv).toNat)
 case atStart => exact ⟨0,Nat.zero_le _,rfl,rfl,rfl,zh (Drawn.refl w)⟩
 case round =>
  obtain ⟨k,hk,rfl,rfl,rfl,hD⟩:=hrel
  by_cases hlt:k < 8
  ·have i1:(k:Int) < 8:=by omega
   by_cases htl:k < b.length
   ·have i2:(k:Int) < (b.length:Int):=by omega
    obtain ⟨bb,off,rfl,hbl,hcell⟩:=(HV.out.below hD.out.below).cell htl;have e1:b.getD k 255 = b.getD k 0:=by simp [List.getD,List.getElem?_eq_getElem htl]
    obtain ⟨p1,p2,p3,p4,p5⟩:=zqbu HBt.out (f:=0) (by decide) (by decide) hlt (by decide) rfl
    obtain ⟨q1,q2,q3,-,-⟩:=zqbu HBt.out (f:=255) (by decide) (by decide) hlt (by decide) e1
    have HP1:=zh p1;have HQ1:=zh q1;clear p1 q1 e1;generalize b.getD k 0 = c at *;generalize fillN b 0 k = lo at *;generalize fillN b 255 k = hi at *;have hw1:IntKind.u64.wrap (lo * 256) = lo * 256:=by rw [IntKind.wrap_u64]; omega
    have hw2:IntKind.u64.wrap (hi * 256) = hi * 256:=by rw [IntKind.wrap_u64]; omega
    have hw3:IntKind.u64.wrap (lo * 256 + c) = lo * 256 + c:=by rw [IntKind.wrap_u64]; omega
    have hw4:IntKind.u64.wrap (hi * 256 + c) = hi * 256 + c:=by rw [IntKind.wrap_u64]; omega
    have hu:IntKind.u64.wrap c = c:=by rw [IntKind.wrap_u64]; omega
    go_wp2_with fail;go_region
    all_goals
     go_wp2_with fail;refine ⟨⟨k + 1,by omega,by rw [HP1.out],by rw [HQ1.out],by go_num,zh (Drawn.one hD.out)⟩,by simp [intOf] <;> omega⟩
   ·have i2:¬ (k:Int) < (b.length:Int):=by omega
    have e0:b.getD k 0 = 0:=by simp [List.getD,List.getElem?_eq_none (Nat.le_of_not_lt htl)]
    have e1:b.getD k 255 = 255:=by simp [List.getD,List.getElem?_eq_none (Nat.le_of_not_lt htl)]
    obtain ⟨p1,p2,p3,-,-⟩:=zqbu HBt.out (f:=0) (by decide) (by decide) hlt (by decide) e0
    obtain ⟨q1,q2,q3,-,-⟩:=zqbu HBt.out (f:=255) (by decide) (by decide) hlt (by decide) e1
    have HP1:=zh p1;have HQ1:=zh q1;clear p1 q1 e0 e1;generalize fillN b 0 k = lo at *;generalize fillN b 255 k = hi at *;have hw1:IntKind.u64.wrap (lo * 256) = lo * 256:=by rw [IntKind.wrap_u64]; omega
    have hw2:IntKind.u64.wrap (hi * 256) = hi * 256:=by rw [IntKind.wrap_u64]; omega
    have hw4:IntKind.u64.wrap (hi * 256 + 255) = hi * 256 + 255:=by rw [IntKind.wrap_u64]; omega
    go_wp2_with fail;refine ⟨⟨k + 1,by omega,by rw [HP1.out,Int.add_zero],by rw [HQ1.out],by go_num,hD⟩,by simp [intOf] <;> omega⟩
  ·obtain rfl:k = 8:=by omega
   have i1:¬ ((8:Nat):Int) < 8:=by omega
   obtain ⟨⟨r0,r1⟩,r2,r3⟩:=HR.out;have HK:=zh (fun w => zqkr (fillN b 0 8) w r0 (by omega))
   have HK2:=zh (fun w => zqkr (fillN b 255 8) w r2 (by omega))
   generalize fillN b 0 8 = lo at *;generalize fillN b 255 8 = hi at *
   by_cases h8:8 ≤ b.length
   ·have i2:(8:Int) ≤ (b.length:Int):=by omega
    by_cases hk1:Keyed lo
    ·have HE2:=zh (show R = (lo,0) by rw [HE.out,if_pos h8,if_pos hk1])
     rw [decide_eq_true hk1] at HK;go_wp2_with fail;refine (HK.out _).mono ?_; rintro e w1 ⟨rfl,rfl⟩;go_wp2_with fail;exact bodyPost_ret (v:=.tuple #[.int .u64 lo,.int .i64 0]) (by simp [results,Tryz.results238,go_sem]) rfl ⟨by rw [HE2.out]; rfl,hD.out⟩
    ·have HE2:=zh (show R = (0,6) by rw [HE.out,if_pos h8,if_neg hk1])
     rw [decide_eq_false hk1] at HK;go_wp2_with fail;refine (HK.out _).mono ?_; rintro e w1 ⟨rfl,rfl⟩;go_wp2_with fail;exact bodyPost_ret (v:=.tuple #[.int .u64 0,.int .i64 6]) (by simp [results,Tryz.results238,go_sem]) rfl ⟨by rw [HE2.out]; rfl,hD.out⟩
   ·have i2:¬ (8:Int) ≤ (b.length:Int):=by omega
    by_cases hk1:Keyed lo
    ·have HE2:=zh (show R = (0,5) by rw [HE.out,if_neg h8,if_pos (.inl hk1)])
     rw [decide_eq_true hk1] at HK;go_wp2_with fail;refine (HK.out _).mono ?_; rintro e w1 ⟨rfl,rfl⟩;go_wp2_with fail;exact bodyPost_ret (v:=.tuple #[.int .u64 0,.int .i64 5]) (by simp [results,Tryz.results238,go_sem]) rfl ⟨by rw [HE2.out]; rfl,hD.out⟩
    ·rw [decide_eq_false hk1] at HK
     by_cases hk2:Keyed hi
     ·have HE2:=zh (show R = (0,5) by rw [HE.out,if_neg h8,if_pos (.inr (.inl hk2))])
      rw [decide_eq_true hk2] at HK2;go_wp2_with fail;refine (HK.out _).mono ?_; rintro e w1 ⟨rfl,rfl⟩;go_wp2_with fail;refine (HK2.out _).mono ?_; rintro e w1 ⟨rfl,rfl⟩;go_wp2_with fail;exact bodyPost_ret (v:=.tuple #[.int .u64 0,.int .i64 5]) (by simp [results,Tryz.results238,go_sem]) rfl ⟨by rw [HE2.out]; rfl,hD.out⟩
     ·rw [decide_eq_false hk2] at HK2
      by_cases a1:lo < (9223372036854775808:Int)
      ·by_cases a2:(9223372036854775808:Int) ≤ hi
       ·have HE2:=zh (show R = (0,5) by rw [HE.out,if_neg h8,if_pos (.inr (.inr ⟨a1,a2⟩))])
        go_wp2_with fail;refine (HK.out _).mono ?_; rintro e w1 ⟨rfl,rfl⟩;go_wp2_with fail;refine (HK2.out _).mono ?_; rintro e w1 ⟨rfl,rfl⟩;go_wp2_with fail;exact bodyPost_ret (v:=.tuple #[.int .u64 0,.int .i64 5]) (by simp [results,Tryz.results238,go_sem]) rfl ⟨by rw [HE2.out]; rfl,hD.out⟩
       ·have HE2:=zh (show R = (0,6) by rw [HE.out,if_neg h8,if_neg (by rintro (h | h | h); exact hk1 h; exact hk2 h; exact a2 h.2)])
        go_wp2_with fail;refine (HK.out _).mono ?_; rintro e w1 ⟨rfl,rfl⟩;go_wp2_with fail;refine (HK2.out _).mono ?_; rintro e w1 ⟨rfl,rfl⟩;go_wp2_with fail;exact bodyPost_ret (v:=.tuple #[.int .u64 0,.int .i64 6]) (by simp [results,Tryz.results238,go_sem]) rfl ⟨by rw [HE2.out]; rfl,hD.out⟩
      ·have HE2:=zh (show R = (0,6) by rw [HE.out,if_neg h8,if_neg (by rintro (h | h | h); exact hk1 h; exact hk2 h; exact a1 h.1)])
       go_wp2_with fail;refine (HK.out _).mono ?_; rintro e w1 ⟨rfl,rfl⟩;go_wp2_with fail;refine (HK2.out _).mono ?_; rintro e w1 ⟨rfl,rfl⟩;go_wp2_with fail;exact bodyPost_ret (v:=.tuple #[.int .u64 0,.int .i64 6]) (by simp [results,Tryz.results238,go_sem]) rfl ⟨by rw [HE2.out]; rfl,hD.out⟩
set_option maxRecDepth 100000
open Go.RowKit
set_option linter.unusedVariables false
def cvt (neg:Bool) (c0:Int) (T:List Int):Int × Nat × Nat :=
 if c0 = 8 ∧ 0 < T.length ∧ 127 < T.getD 0 0 then (0,0,6) else if (getU (c0 :: T)).2.2 ≠ 0 then (0,0,(getU (c0 :: T)).2.2) else (if neg then -1 - (getU (c0 :: T)).1 else (getU (c0 :: T)).1,(getU (c0 :: T)).2.1,0)
theorem zql9 (t:List Int):∀ n,n ≤ t.length → fillN (t.map fun x => 255 - x) 0 n = 256 ^ n - 1 - fillN t 0 n
 | 0,_ => by simp [fillN]
 | n + 1,h => by
  have e:(t.map fun x => 255 - x).getD n 0 = 255 - t.getD n 0:=by simp [List.getD,List.getElem?_eq_getElem (show n < t.length by omega)]
  rw [fillN,fillN,zql9 t n (by omega),e,Int.pow_succ]; omega
theorem zqmj {c:Int} {T:List Int} (hT:Bt T) (h0:0 ≤ c) (hb:¬ (c = 8 ∧ 0 < T.length ∧ 127 < T.getD 0 0)) (he:(getU (c :: T)).2.2 = 0):0 ≤ (getU (c :: T)).1 ∧ (getU (c :: T)).1 ≤ 9223372036854775807:=by
 rw [zqba] at he ⊢
 split at he
 ·cases he
 ·rename_i h1;rw [if_neg h1]
  split at he
  ·cases he
  ·rename_i h2;rw [if_neg h2];obtain ⟨n,rfl⟩:=Int.eq_ofNat_of_zero_le h0;simp only [Int.toNat_natCast] at h2 ⊢;have hr:=zqam hT (f:=0) (by decide) (by decide) n
   by_cases h8:n = 8
   ·subst h8;have h3:fillN T 0 8 = T.getD 0 0 * 256 ^ 7 + fillN T.tail 0 7:=zqb5 T 0 7;have hr7:=zqam hT.tl (f:=0) (by decide) (by decide) 7
    have e7:(256:Int) ^ 7 = 72057594037927936:=by decide
    have h4:=hT.getD (d:=0) (by decide) (by decide) 0
    rw [e7] at h3 hr7;have:T.getD 0 0 ≤ 127:=by omega
    omega
   ·have:(256:Int) ^ n ≤ 256 ^ 7:=by
     have:256 ^ n ≤ 256 ^ 7:=Nat.pow_le_pow_right (by decide) (by omega)
     exact_mod_cast this
    have e7:(256:Int) ^ 7 = 72057594037927936:=by decide
    omega
theorem getD_both {t:List Int} (h:0 < t.length) (d:Int):t.getD 0 d = t.getD 0 0:=by simp [List.getD,List.getElem?_eq_getElem h]
theorem zqza {t:List Int} (h:0 < t.length):(t.map fun x => 255 - x).getD 0 0 = 255 - t.getD 0 0:=by simp [List.getD,List.getElem?_eq_getElem h]
theorem zqf8 {h:Int} {t:List Int} {n:Nat} (h9:9 ≤ h):badI h t n ↔ (8 < n ∨ (0 < n ∧ 0 < t.length ∧ (t.getD 0 0 = 0 ∨ (n = 8 ∧ 127 < t.getD 0 0)))):=by unfold badI; rw [if_neg (by omega)]
theorem zqin {h:Int} {t:List Int} {n:Nat} (h9:h < 9):badI h t n ↔ (8 < n ∨ (0 < n ∧ 0 < t.length ∧ (t.getD 0 0 = 255 ∨ (n = 8 ∧ t.getD 0 0 < 128)))):=by unfold badI; rw [if_pos h9]
theorem zqqk {h:Int} {t:List Int} (h9:9 ≤ h):getI (h :: t) = cvt false (h - 9) t:=by
 have hs:sizeI h = (h - 9).toNat:=by unfold sizeI; rw [if_neg (by omega)]
 rw [zqcf,hs];unfold cvt;rw [zqba];obtain ⟨n,hn⟩:=Int.eq_ofNat_of_zero_le (show 0 ≤ h - 9 by omega)
 rw [hn];simp only [Int.toNat_natCast,show ¬ h < 9 by omega,if_false,Bool.false_eq_true]
 by_cases hl:0 < t.length
 ·have e1:=getD_both hl 1;rw [e1]
  by_cases c1:(n:Int) = 8 ∧ 0 < t.length ∧ 127 < t.getD 0 0
  ·rw [if_pos c1,if_pos ((zqf8 h9).2 (by omega))]
  ·rw [if_neg c1]
   by_cases c2:8 < (n:Int) ∨ 0 < (n:Int) ∧ t.getD 0 0 = 0
   ·rw [if_pos c2,if_pos ((zqf8 h9).2 (by omega))]; rfl
   ·rw [if_neg c2,if_neg (fun hh => absurd ((zqf8 h9).1 hh) (by omega))]
    split <;> rfl
 ·have ht:t = []:=List.length_eq_zero_iff.1 (by omega)
  subst ht;rw [if_neg (show ¬ ((n:Int) = 8 ∧ 0 < ([]:List Int).length ∧ 127 < ([]:List Int).getD 0 0) by simp)]
  by_cases c2:8 < (n:Int) ∨ 0 < (n:Int) ∧ ([]:List Int).getD 0 1 = 0
  ·have c3:8 < n:=by simp at c2; omega
   rw [if_pos c2,if_pos ((zqf8 h9).2 (.inl c3))]; rfl
  ·have c3:¬ 8 < n:=by simp at c2; omega
   rw [if_neg c2,if_neg (fun hh => absurd ((zqf8 h9).1 hh) (by simp; omega))]
   split <;> rfl
theorem zq09 {h:Int} {t:List Int} (h0:0 ≤ h) (h9:h < 9):getI (h :: t) = cvt true (8 - h) (t.map fun x => 255 - x):=by
 have hs:sizeI h = (8 - h).toNat:=by unfold sizeI; rw [if_pos (by omega)]
 rw [zqcf,hs];unfold cvt;rw [zqba];obtain ⟨n,hn⟩:=Int.eq_ofNat_of_zero_le (show 0 ≤ 8 - h by omega)
 rw [hn];simp only [Int.toNat_natCast,h9,if_true,List.length_map]
 by_cases hl:0 < t.length
 ·have e1:=getD_both (t:=t.map fun x => 255 - x) (by simpa using hl) 1
  rw [e1,zqza hl]
  by_cases c1:(n:Int) = 8 ∧ 0 < t.length ∧ 127 < 255 - t.getD 0 0
  ·rw [if_pos c1,if_pos ((zqin h9).2 (by omega))]
  ·rw [if_neg c1]
   by_cases c2:8 < (n:Int) ∨ 0 < (n:Int) ∧ 255 - t.getD 0 0 = 0
   ·rw [if_pos c2,if_pos ((zqin h9).2 (by omega))]; rfl
   ·rw [if_neg c2,if_neg (fun hh => absurd ((zqin h9).1 hh) (by omega))]
    by_cases c3:t.length < n
    ·rw [if_pos c3,if_pos c3]; rfl
    ·rw [if_neg c3,if_neg c3,zql9 t n (by omega)]
     simp only [ne_eq,not_true_eq_false,if_false];rw [show fillN t 0 n - 256 ^ n = -1 - (256 ^ n - 1 - fillN t 0 n) by omega]
 ·have ht:t = []:=List.length_eq_zero_iff.1 (by omega)
  subst ht;rw [if_neg (show ¬ ((n:Int) = 8 ∧ 0 < ([]:List Int).length ∧ 127 < (([]:List Int).map fun x => 255 - x).getD 0 0) by simp)]
  rw [if_neg (show ¬ (8 < (n:Int) ∨ 0 < (n:Int) ∧ (([]:List Int).map fun x => 255 - x).getD 0 1 = 0) by simp; omega),if_neg (fun hh => absurd ((zqin h9).1 hh) (by simp; omega))]
  by_cases c3:([]:List Int).length < n
  ·rw [if_pos c3,if_pos c3]; rfl
  ·have:n = 0:=by simp at c3; omega
   subst this;simp [fillN]
set_option maxHeartbeats 16000000 in
theorem zqwq (v:Value) (h:Int) (t:List Int) (w:World) (hv:Ints .u8 w v (h :: t)) (hb:Bt (h :: t)) (hl:t.length ≤ 100000) (h9:9 ≤ h) :
  Calls Tryz.prog 237 #[v] w fun e w' => e = .returned (tripI (getI (h :: t))) ∧ Below w.heap.size w w':=by
 have HV:=zh hv;have HBt:=zh hb;obtain ⟨i0,hi,hz0,hz1,hz2⟩:=info_parts Tryz.infoU8;obtain ⟨bb,off,cap,rfl,hcap,hbl,hcell⟩:=zqcg hv;have HLt:=zh hl;have i00:((t.length:Int) + 1 == 0) = false:=by simp; omega
 have hu:IntKind.u8.wrap (h - 9) = h - 9:=by have:=hb.head; rw [IntKind.wrap_u8]; omega
 have HBC:=zh (show Bt ((h - 9) :: t) from Bt.cons (by omega) (by have:=hb.head; omega) hb.tail)
 have i1:¬ h < 9:=by omega
 have hq:∃ q,getU ((h - 9) :: t) = q:=⟨_,rfl⟩
 obtain ⟨⟨x,nr,er⟩,hq⟩:=hq;have HQq:=zh hq;obtain ⟨T0,hT0⟩:∃ z,t.getD 0 0 = z:=⟨_,rfl⟩
 have HT0:=zh hT0;have HCv:=(show ¬ (h - 9 = 8 ∧ 0 < t.length ∧ 127 < T0) → getI (h :: t) = if er ≠ 0 then (0,0,er) else (x,nr,0) from fun hn => by
  rw [zqqk h9]; unfold cvt; rw [hT0,if_neg hn,hq]; rfl)
 have HSz:=(show ¬ (h - 9 = 8 ∧ 0 < t.length ∧ 127 < T0) → er = 0 → 0 ≤ x ∧ x ≤ 9223372036854775807 from fun hn he => by
  have:=zqmj (c:=h - 9) HBC.out.tail HBC.out.head.1 (by rw [hT0]; exact hn) (by rw [hq]; exact he)
  rw [hq] at this; exact this)
 have HG2:=(show h - 9 = 8 → 0 < t.length → 127 < T0 → getI (h :: t) = (0,0,6) from fun a b c => by
  rw [zqqk h9]; unfold cvt; rw [if_pos ⟨a,b,by rw [hT0]; exact c⟩])
 clear hq hT0 hb hv
 by_cases h8:h - 9 = 8
 ·have h8':(h - 9 == 8) = true:=by simpa using h8
  by_cases hl0:0 < t.length
  ·have l1:(1:Int) < (t.length:Int) + 1:=by omega
   by_cases hT:127 < T0
   ·have HE:=zh (HG2 h8 hl0 hT);clear HCv HSz HG2;go_enter Tryz.func237,Tryz.ntmps237;go_wp2_with (at_builtin; refine zqak _ (by rfl) _ _ 36 rfl w.heap.size 5 i0 (.int .u8 0) 1 Tryz.underlying36 hi hz0 hz1 hz2 rfl .u8 _ _ [] (h :: t) rfl rfl (World.ownsRow_lit w #[] 0 (Nat.le_refl _) (by unfold maxLen; omega) rfl) (HV.out.below (zqab w _)) (by have:=HLt.out; unfold maxLen; simp; omega) (by have:=HLt.out; simp; omega) (by simp) ?_; intro v' w1 hown hgrow; rw [List.nil_append] at hown; have HQ:=zh (And.intro hown (zqey hgrow)); obtain ⟨g,gc,rfl,hg,hg2⟩:=zqdy hown (by simp); clear hown hgrow; have hcell1:=(HQ.out.2.cell (p:=⟨bb,off,none⟩) hbl).trans hcell; have G0:=zqbr HQ.out.1 (j:=0) (by simp); rw [List.getD_cons_zero] at G0; obtain ⟨G0,F0⟩:=G0; simp only [List.length_cons] at HQ ⊢; have hs:=zqdb (B:=w.heap.size) (g:=g) (cap:=gc) (n:=t.length + 1) (l:=h :: t) HQ.out.1 0 (h - 9); rw [List.set_cons_zero] at hs; have HP:=zh (And.intro hs.1 (HQ.out.2.grown hs.2 HQ.out.2.size (fun k hk => by cases hk; exact hg))); clear hs; have HU:=zh (zqcj _ _ _ (Ints.own HP.out.1) HBC.out (by simp; have:=HLt.out; omega)); rw [HQq.out] at HU; rw [h8] at HP HU ; have G1:=(zqbr HQ.out.1 (j:=1) (by simp; omega)).1; rw [List.getD_cons_succ,HT0.out] at G1)
    exact bodyPost_ret (v:=.tuple #[.int .i64 0,.int .i64 0,.int .i64 6]) (by simp [results,Tryz.results237,go_sem]) rfl ⟨by rw [HE.out]; rfl,HP.out.2⟩
   ·have hbad:¬ (h - 9 = 8 ∧ 0 < t.length ∧ 127 < T0):=by omega
    have HCv:=zh (HCv hbad);have HSz:=zh (HSz hbad);clear HG2 hbad;go_enter Tryz.func237,Tryz.ntmps237;go_wp2_with (at_builtin; refine zqak _ (by rfl) _ _ 36 rfl w.heap.size 5 i0 (.int .u8 0) 1 Tryz.underlying36 hi hz0 hz1 hz2 rfl .u8 _ _ [] (h :: t) rfl rfl (World.ownsRow_lit w #[] 0 (Nat.le_refl _) (by unfold maxLen; omega) rfl) (HV.out.below (zqab w _)) (by have:=HLt.out; unfold maxLen; simp; omega) (by have:=HLt.out; simp; omega) (by simp) ?_; intro v' w1 hown hgrow; rw [List.nil_append] at hown; have HQ:=zh (And.intro hown (zqey hgrow)); obtain ⟨g,gc,rfl,hg,hg2⟩:=zqdy hown (by simp); clear hown hgrow; have hcell1:=(HQ.out.2.cell (p:=⟨bb,off,none⟩) hbl).trans hcell; have G0:=zqbr HQ.out.1 (j:=0) (by simp); rw [List.getD_cons_zero] at G0; obtain ⟨G0,F0⟩:=G0; simp only [List.length_cons] at HQ ⊢; have hs:=zqdb (B:=w.heap.size) (g:=g) (cap:=gc) (n:=t.length + 1) (l:=h :: t) HQ.out.1 0 (h - 9); rw [List.set_cons_zero] at hs; have HP:=zh (And.intro hs.1 (HQ.out.2.grown hs.2 HQ.out.2.size (fun k hk => by cases hk; exact hg))); clear hs; have HU:=zh (zqcj _ _ _ (Ints.own HP.out.1) HBC.out (by simp; have:=HLt.out; omega)); rw [HQq.out] at HU; rw [h8] at HP HU ; have G1:=(zqbr HQ.out.1 (j:=1) (by simp; omega)).1; rw [List.getD_cons_succ,HT0.out] at G1)
    refine (HU.out).mono ?_; rintro e' w2 ⟨rfl,rfl⟩;unfold trip
    by_cases he:er = 0
    ·subst he;obtain ⟨z0,z1⟩:=HSz.out rfl;have HE:=zh (show getI (h :: t) = (x,nr,0) by rw [HCv.out]; rfl)
     have k1:IntKind.i64.wrap x = x:=IntWalk.i64_in _ (by omega)
     have k2:IntKind.i64.wrap (-1 - x) = -1 - x:=IntWalk.i64_in _ (by omega)
     go_wp2_with fail;exact bodyPost_ret (v:=.tuple #[.int .i64 (x),.int .i64 (nr:Int),.int .i64 0]) (by simp [results,Tryz.results237,go_sem]) rfl ⟨by rw [HE.out]; rfl,HP.out.2⟩
    ·have HE:=zh (show getI (h :: t) = (0,0,er) by rw [HCv.out]; exact if_pos he)
     have hne:((er:Int) == 0) = false:=by simp; omega
     go_wp2_with fail;exact bodyPost_ret (v:=.tuple #[.int .i64 0,.int .i64 0,.int .i64 (er:Int)]) (by simp [results,Tryz.results237,go_sem]) rfl ⟨by rw [HE.out]; rfl,HP.out.2⟩
  ·have l1:¬ (1:Int) < (t.length:Int) + 1:=by omega
   have hbad:¬ (h - 9 = 8 ∧ 0 < t.length ∧ 127 < T0):=by omega
   have HCv:=zh (HCv hbad);have HSz:=zh (HSz hbad);clear HG2 hbad;go_enter Tryz.func237,Tryz.ntmps237;go_wp2_with (at_builtin; refine zqak _ (by rfl) _ _ 36 rfl w.heap.size 5 i0 (.int .u8 0) 1 Tryz.underlying36 hi hz0 hz1 hz2 rfl .u8 _ _ [] (h :: t) rfl rfl (World.ownsRow_lit w #[] 0 (Nat.le_refl _) (by unfold maxLen; omega) rfl) (HV.out.below (zqab w _)) (by have:=HLt.out; unfold maxLen; simp; omega) (by have:=HLt.out; simp; omega) (by simp) ?_; intro v' w1 hown hgrow; rw [List.nil_append] at hown; have HQ:=zh (And.intro hown (zqey hgrow)); obtain ⟨g,gc,rfl,hg,hg2⟩:=zqdy hown (by simp); clear hown hgrow; have hcell1:=(HQ.out.2.cell (p:=⟨bb,off,none⟩) hbl).trans hcell; have G0:=zqbr HQ.out.1 (j:=0) (by simp); rw [List.getD_cons_zero] at G0; obtain ⟨G0,F0⟩:=G0; simp only [List.length_cons] at HQ ⊢; have hs:=zqdb (B:=w.heap.size) (g:=g) (cap:=gc) (n:=t.length + 1) (l:=h :: t) HQ.out.1 0 (h - 9); rw [List.set_cons_zero] at hs; have HP:=zh (And.intro hs.1 (HQ.out.2.grown hs.2 HQ.out.2.size (fun k hk => by cases hk; exact hg))); clear hs; have HU:=zh (zqcj _ _ _ (Ints.own HP.out.1) HBC.out (by simp; have:=HLt.out; omega)); rw [HQq.out] at HU; rw [h8] at HP HU)
   refine (HU.out).mono ?_; rintro e' w2 ⟨rfl,rfl⟩;unfold trip
   by_cases he:er = 0
   ·subst he;obtain ⟨z0,z1⟩:=HSz.out rfl;have HE:=zh (show getI (h :: t) = (x,nr,0) by rw [HCv.out]; rfl)
    have k1:IntKind.i64.wrap x = x:=IntWalk.i64_in _ (by omega)
    have k2:IntKind.i64.wrap (-1 - x) = -1 - x:=IntWalk.i64_in _ (by omega)
    go_wp2_with fail;exact bodyPost_ret (v:=.tuple #[.int .i64 (x),.int .i64 (nr:Int),.int .i64 0]) (by simp [results,Tryz.results237,go_sem]) rfl ⟨by rw [HE.out]; rfl,HP.out.2⟩
   ·have HE:=zh (show getI (h :: t) = (0,0,er) by rw [HCv.out]; exact if_pos he)
    have hne:((er:Int) == 0) = false:=by simp; omega
    go_wp2_with fail;exact bodyPost_ret (v:=.tuple #[.int .i64 0,.int .i64 0,.int .i64 (er:Int)]) (by simp [results,Tryz.results237,go_sem]) rfl ⟨by rw [HE.out]; rfl,HP.out.2⟩
 ·have h8':(h - 9 == 8) = false:=by simpa using h8
  have hbad:¬ (h - 9 = 8 ∧ 0 < t.length ∧ 127 < T0):=by omega
  have HCv:=zh (HCv hbad);have HSz:=zh (HSz hbad);clear HG2 hbad;go_enter Tryz.func237,Tryz.ntmps237;go_wp2_with (at_builtin; refine zqak _ (by rfl) _ _ 36 rfl w.heap.size 5 i0 (.int .u8 0) 1 Tryz.underlying36 hi hz0 hz1 hz2 rfl .u8 _ _ [] (h :: t) rfl rfl (World.ownsRow_lit w #[] 0 (Nat.le_refl _) (by unfold maxLen; omega) rfl) (HV.out.below (zqab w _)) (by have:=HLt.out; unfold maxLen; simp; omega) (by have:=HLt.out; simp; omega) (by simp) ?_; intro v' w1 hown hgrow; rw [List.nil_append] at hown; have HQ:=zh (And.intro hown (zqey hgrow)); obtain ⟨g,gc,rfl,hg,hg2⟩:=zqdy hown (by simp); clear hown hgrow; have hcell1:=(HQ.out.2.cell (p:=⟨bb,off,none⟩) hbl).trans hcell; have G0:=zqbr HQ.out.1 (j:=0) (by simp); rw [List.getD_cons_zero] at G0; obtain ⟨G0,F0⟩:=G0; simp only [List.length_cons] at HQ ⊢; have hs:=zqdb (B:=w.heap.size) (g:=g) (cap:=gc) (n:=t.length + 1) (l:=h :: t) HQ.out.1 0 (h - 9); rw [List.set_cons_zero] at hs; have HP:=zh (And.intro hs.1 (HQ.out.2.grown hs.2 HQ.out.2.size (fun k hk => by cases hk; exact hg))); clear hs; have HU:=zh (zqcj _ _ _ (Ints.own HP.out.1) HBC.out (by simp; have:=HLt.out; omega)); rw [HQq.out] at HU)
  refine (HU.out).mono ?_; rintro e' w2 ⟨rfl,rfl⟩;unfold trip
  by_cases he:er = 0
  ·subst he;obtain ⟨z0,z1⟩:=HSz.out rfl;have HE:=zh (show getI (h :: t) = (x,nr,0) by rw [HCv.out]; rfl)
   have k1:IntKind.i64.wrap x = x:=IntWalk.i64_in _ (by omega)
   have k2:IntKind.i64.wrap (-1 - x) = -1 - x:=IntWalk.i64_in _ (by omega)
   go_wp2_with fail;exact bodyPost_ret (v:=.tuple #[.int .i64 (x),.int .i64 (nr:Int),.int .i64 0]) (by simp [results,Tryz.results237,go_sem]) rfl ⟨by rw [HE.out]; rfl,HP.out.2⟩
  ·have HE:=zh (show getI (h :: t) = (0,0,er) by rw [HCv.out]; exact if_pos he)
   have hne:((er:Int) == 0) = false:=by simp; omega
   go_wp2_with fail;exact bodyPost_ret (v:=.tuple #[.int .i64 0,.int .i64 0,.int .i64 (er:Int)]) (by simp [results,Tryz.results237,go_sem]) rfl ⟨by rw [HE.out]; rfl,HP.out.2⟩
set_option maxHeartbeats 16000000 in
theorem zqwp (v:Value) (h:Int) (t:List Int) (w:World) (hv:Ints .u8 w v (h :: t)) (hb:Bt (h :: t)) (hl:t.length ≤ 100000) (h9:h < 9) :
  Calls Tryz.prog 237 #[v] w fun e w' => e = .returned (tripI (getI (h :: t))) ∧ Below w.heap.size w w':=by
 have HV:=zh hv;have HBt:=zh hb;obtain ⟨i0,hi,hz0,hz1,hz2⟩:=info_parts Tryz.infoU8;obtain ⟨bb,off,cap,rfl,hcap,hbl,hcell⟩:=zqcg hv;have HLt:=zh hl;have i00:((t.length:Int) + 1 == 0) = false:=by simp; omega
 have hh:=hb.head;have hu:IntKind.u8.wrap (8 - h) = 8 - h:=by rw [IntKind.wrap_u8]; omega
 have HG:=zh (zq09 (t:=t) hh.1 h9);have HBC:=zh (show Bt ((8 - h) :: t.map fun x => 255 - x) from Bt.cons (by omega) (by omega) (fun y hy => by
  obtain ⟨z,hz,rfl⟩:=List.mem_map.1 hy;have:=hb.tail z hz;omega))
 have HTl:=zh (show (t.map fun x => 255 - x).length = t.length by simp)
 have HFz:=zh (show flipL t.length t = t.map fun x => 255 - x from zqn5 t)
 clear hb hv;go_enter Tryz.func237,Tryz.ntmps237;go_wp2_with (at_builtin; refine zqak _ (by rfl) _ _ 36 rfl w.heap.size 5 i0 (.int .u8 0) 1 Tryz.underlying36 hi hz0 hz1 hz2 rfl .u8 _ _ [] (h :: t) rfl rfl (World.ownsRow_lit w #[] 0 (Nat.le_refl _) (by unfold maxLen; omega) rfl) (HV.out.below (zqab w _)) (by have:=HLt.out; unfold maxLen; simp; omega) (by have:=HLt.out; simp; omega) (by simp) ?_; intro v' w1 hown hgrow; rw [List.nil_append] at hown; have HQ:=zh (And.intro hown (zqey hgrow)); obtain ⟨g,gc,rfl,hg,hg2⟩:=zqdy hown (by simp); clear hown hgrow; have hcell1:=(HQ.out.2.cell (p:=⟨bb,off,none⟩) hbl).trans hcell; have G0:=zqbr HQ.out.1 (j:=0) (by simp); rw [List.getD_cons_zero] at G0; obtain ⟨G0,F0⟩:=G0; simp only [List.length_cons] at HQ ⊢; have hs:=zqdb (B:=w.heap.size) (g:=g) (cap:=gc) (n:=t.length + 1) (l:=h :: t) HQ.out.1 0 (8 - h); rw [List.set_cons_zero] at hs; have HP:=zh (And.intro hs.1 (HQ.out.2.grown hs.2 HQ.out.2.size (fun k hk => by cases hk; exact hg))); clear hs)
 go_loopw [7] (fun i wr => ∃ k:Nat,k ≤ t.length ∧ i = .int .i64 ((k:Int) + 1) ∧ Hid (wr.ownsRow w.heap.size 5 1 (.slice (some ⟨g,0,none⟩) (t.length + 1) gc) (t.length + 1) (((8 - h) :: flipL k t).map (Value.int .u8)) ∧ Below w.heap.size w wr)) (fun i _ => t.length + 1 - (intOf i).toNat)
 case atStart => exact ⟨0,Nat.zero_le _,rfl,zh ⟨by rw [zqme]; exact HP.out.1,HP.out.2⟩⟩
 case round =>
  obtain ⟨k,hk,rfl,hS⟩:=hrel;clear HP HQ G0 F0 hcell1
  by_cases hlt:k < t.length
  ·have i1:(k:Int) + 1 < (t.length:Int) + 1:=by omega
   have j3:(0:Int) ≤ (k:Int) + 1:=by omega
   have hc:=zqbr hS.out.1 (j:=k + 1) (by simp [zqn7]; omega)
   rw [List.getD_cons_succ,zqmd k t hlt] at hc;have hs:=zqdb hS.out.1 (k + 1) (255 - t.getD k 0);rw [List.set_cons_succ,zqn8 k t hlt] at hs;have HQ2:=zh (And.intro hs.1 (hS.out.2.grown hs.2 hS.out.2.size (fun k hk => by cases hk; exact hg)))
   have hz:=zqqi HBt.out.tail k;obtain ⟨hcc,hcf⟩:=hc;clear hs hS;generalize t.getD k 0 = z at *;have hu2:IntKind.u8.wrap (255 - z) = 255 - z:=by rw [IntKind.wrap_u8]; omega
   go_wp2_with fail;go_roundw
   case rel => exact ⟨k + 1,by omega,by go_num,HQ2⟩
   case measure => simp [intOf] <;> omega
  ·obtain rfl:k = t.length:=by omega
   have i1:¬ ((t.length:Nat):Int) + 1 < (t.length:Nat) + 1:=by omega
   have hP:=zh (show _ ∧ _ from ⟨by have:=hS.out.1; rw [HFz.out] at this; exact this,hS.out.2⟩)
   clear hS HFz;generalize (t.map fun x => 255 - x) = T at *
   generalize 8 - h = c0 at *;have HBl:=zh hP.out.2;have G0:=zqbr hP.out.1 (j:=0) (by simp)
   rw [List.getD_cons_zero] at G0;have G0:=G0.1;have HU:=zh (zqcj _ _ wr (Ints.own hP.out.1) (HBC.out) (by have:=HLt.out; have:=HTl.out; simp; omega))
   have HCv:=zh (show ∀ q,getU (c0 :: T) = q → ¬ (c0 = 8 ∧ 0 < T.length ∧ 127 < T.getD 0 0) → getI (h :: t) = if q.2.2 ≠ 0 then (0,0,q.2.2) else (-1 - q.1,q.2.1,0) from fun q hq hn => by
    rw [HG.out]; unfold cvt; rw [if_neg hn,hq]; rfl)
   have HSz:=zh (fun h => zqmj (c:=c0) HBC.out.tail HBC.out.head.1 h)
   have G1:0 < T.length → wr.cell? ⟨g,1,none⟩ = some (.int .u8 (T.getD 0 0)):=fun hp => by
    have:=(zqbr hP.out.1 (j:=1) (by simp; omega)).1
    rw [List.getD_cons_succ] at this; exact this
   simp only [HTl.out] at G1 HSz HCv;have HG2:=zh (show c0 = 8 → 0 < t.length → 127 < T.getD 0 0 → getI (h :: t) = (0,0,6) from fun a b c => by
    rw [HG.out]; unfold cvt; rw [if_pos ⟨a,by rw [HTl.out]; exact b,c⟩])
   generalize getU (c0 :: T) = q at *;obtain ⟨x,nr,er⟩:=q;generalize T.getD 0 0 = T0 at *
   by_cases h8:c0 = 8
   ·by_cases hl:0 < t.length
    ·have G1:=G1 hl;have l1:(1:Int) < (t.length:Int) + 1:=by omega
     by_cases hT:127 < T0
     ·have HE:=zh (HG2.out h8 hl hT);clear HCv HSz HG2 HU;subst h8;go_wp2_with fail;exact bodyPost_ret (v:=.tuple #[.int .i64 0,.int .i64 0,.int .i64 6]) (by simp [results,Tryz.results237,go_sem]) rfl ⟨by rw [HE.out]; rfl,HBl.out⟩
     ·have HBad2:=(show ¬ (c0 = 8 ∧ 0 < t.length ∧ 127 < T0) by omega)
      have HSz:=zh (HSz.out HBad2);have HCv:=zh (HCv.out _ rfl HBad2);simp only at HCv HSz;have h8':(c0 == 8) = true:=by simpa using h8
      clear HBad2;go_wp2_with fail;refine (HU.out).mono ?_; rintro e' w2 ⟨rfl,rfl⟩;unfold trip
      by_cases he:er = 0
      ·subst he;obtain ⟨z0,z1⟩:=HSz.out rfl;have HE:=zh (show getI (h :: t) = (-1 - x,nr,0) by rw [HCv.out]; rfl)
       have k1:IntKind.i64.wrap x = x:=IntWalk.i64_in _ (by omega)
       have k2:IntKind.i64.wrap (-1 - x) = -1 - x:=IntWalk.i64_in _ (by omega)
       go_wp2_with fail;exact bodyPost_ret (v:=.tuple #[.int .i64 (-1 - x),.int .i64 (nr:Int),.int .i64 0]) (by simp [results,Tryz.results237,go_sem]) rfl ⟨by rw [HE.out]; rfl,HBl.out⟩
      ·have HE:=zh (show getI (h :: t) = (0,0,er) by rw [HCv.out]; exact if_pos he)
       have hne:((er:Int) == 0) = false:=by simp; omega
       go_wp2_with fail;exact bodyPost_ret (v:=.tuple #[.int .i64 0,.int .i64 0,.int .i64 (er:Int)]) (by simp [results,Tryz.results237,go_sem]) rfl ⟨by rw [HE.out]; rfl,HBl.out⟩
    ·have HBad2:=(show ¬ (c0 = 8 ∧ 0 < t.length ∧ 127 < T0) by omega)
     have HSz:=zh (HSz.out HBad2);have HCv:=zh (HCv.out _ rfl HBad2);simp only at HCv HSz;have l1:¬ (1:Int) < (t.length:Int) + 1:=by omega
     have h8':(c0 == 8) = true:=by simpa using h8
     clear G1;clear HBad2;go_wp2_with fail;refine (HU.out).mono ?_; rintro e' w2 ⟨rfl,rfl⟩;unfold trip
     by_cases he:er = 0
     ·subst he;obtain ⟨z0,z1⟩:=HSz.out rfl;have HE:=zh (show getI (h :: t) = (-1 - x,nr,0) by rw [HCv.out]; rfl)
      have k1:IntKind.i64.wrap x = x:=IntWalk.i64_in _ (by omega)
      have k2:IntKind.i64.wrap (-1 - x) = -1 - x:=IntWalk.i64_in _ (by omega)
      go_wp2_with fail;exact bodyPost_ret (v:=.tuple #[.int .i64 (-1 - x),.int .i64 (nr:Int),.int .i64 0]) (by simp [results,Tryz.results237,go_sem]) rfl ⟨by rw [HE.out]; rfl,HBl.out⟩
     ·have HE:=zh (show getI (h :: t) = (0,0,er) by rw [HCv.out]; exact if_pos he)
      have hne:((er:Int) == 0) = false:=by simp; omega
      go_wp2_with fail;exact bodyPost_ret (v:=.tuple #[.int .i64 0,.int .i64 0,.int .i64 (er:Int)]) (by simp [results,Tryz.results237,go_sem]) rfl ⟨by rw [HE.out]; rfl,HBl.out⟩
   ·have HBad2:=(show ¬ (c0 = 8 ∧ 0 < t.length ∧ 127 < T0) by omega)
    have HSz:=zh (HSz.out HBad2);have HCv:=zh (HCv.out _ rfl HBad2);simp only at HCv HSz;have h8':(c0 == 8) = false:=by simpa using h8
    clear G1;clear HBad2;go_wp2_with fail;refine (HU.out).mono ?_; rintro e' w2 ⟨rfl,rfl⟩;unfold trip
    by_cases he:er = 0
    ·subst he;obtain ⟨z0,z1⟩:=HSz.out rfl;have HE:=zh (show getI (h :: t) = (-1 - x,nr,0) by rw [HCv.out]; rfl)
     have k1:IntKind.i64.wrap x = x:=IntWalk.i64_in _ (by omega)
     have k2:IntKind.i64.wrap (-1 - x) = -1 - x:=IntWalk.i64_in _ (by omega)
     go_wp2_with fail;exact bodyPost_ret (v:=.tuple #[.int .i64 (-1 - x),.int .i64 (nr:Int),.int .i64 0]) (by simp [results,Tryz.results237,go_sem]) rfl ⟨by rw [HE.out]; rfl,HBl.out⟩
    ·have HE:=zh (show getI (h :: t) = (0,0,er) by rw [HCv.out]; exact if_pos he)
     have hne:((er:Int) == 0) = false:=by simp; omega
     go_wp2_with fail;exact bodyPost_ret (v:=.tuple #[.int .i64 0,.int .i64 0,.int .i64 (er:Int)]) (by simp [results,Tryz.results237,go_sem]) rfl ⟨by rw [HE.out]; rfl,HBl.out⟩
theorem zqwo (v:Value) (b:List Int) (w:World) (hv:Ints .u8 w v b) (hb:Bt b) (hl:b.length ≤ 100000) :
  Calls Tryz.prog 237 #[v] w fun e w' => e = .returned (tripI (getI b)) ∧ Below w.heap.size w w':=by
 cases b with
 | nil =>
  obtain ⟨a,cap,rfl,hcap,-⟩:=hv;go_enter Tryz.func237,Tryz.ntmps237;go_wp2_with fail;exact bodyPost_ret (v:=.tuple #[.int .i64 0,.int .i64 0,.int .i64 5]) (by simp [results,Tryz.results237,go_sem]) rfl ⟨rfl,Below.refl _ _⟩
 | cons h t =>
  simp only [List.length_cons] at hl
  by_cases h9:h < 9
  ·exact zqwp v h t w hv hb (by omega) h9
  ·exact zqwq v h t w hv hb (by omega) (by omega)
set_option maxRecDepth 100000
open Go.RowKit
set_option linter.unusedVariables false
theorem zqie (l:List Int):(strB l).size = l.length:=by simp [strB,ByteArray.size]
theorem zqi6 (a b:List Int):strB (a ++ b) = strB a ++ strB b:=by
 apply ByteArray.ext;simp [strB]
theorem zqy2 {w:World} {b:List Int} {bb off cap:Nat} (hv:Ints .u8 w (.slice (some ⟨bb,off,none⟩) b.length cap) b) {k:Nat} (hk:k < b.length) (c2:Nat) (hc:1 ≤ c2):Ints .u8 w (.slice (some ⟨bb,off + k,none⟩) 1 c2) [b.getD k 0]:=by
 obtain ⟨bb',off',e,hb,hcell⟩:=hv.cell hk;cases e
 refine ⟨_,_,rfl,hc,.inr ⟨bb,off + k,rfl,hb,fun i hi => ?_⟩⟩
 obtain rfl:i = 0:=by simpa using hi
 simpa using hcell
set_option maxHeartbeats 8000000 in
theorem zqwr (v:Value) (b:List Int) (w:World) (hv:Ints .u8 w v b) (hb:Bt b) (hl:b.length ≤ 100000) :
  Calls Tryz.prog 239 #[v] w fun e w' => e = .returned (tripT (getT b [] 0)) ∧ w = w':=by
 have HV:=zh hv;obtain ⟨a,cap,rfl,hcap,-⟩:=hv;have HBt:=zh hb;clear hb;have hS0:Value.string ⟨#[]⟩ = Value.string (strB []):=rfl;go_enter Tryz.func239,Tryz.ntmps239;go_wp2_with fail;go_loopw [5,6] (fun sv iv wr => ∃ (k:Nat) (acc:List Int),k ≤ b.length ∧ sv = .string (strB acc) ∧ iv = .int .i64 k ∧ Hid (acc.length ≤ k ∧ getT (b.drop k) acc k = getT b [] 0) ∧ w = wr) (fun _ iv _ => b.length - (intOf iv).toNat)
 case atStart => exact ⟨0,[],Nat.zero_le _,rfl,rfl,zh ⟨Nat.le_refl _,rfl⟩,by trivial⟩
 case round =>
  obtain ⟨k,acc,hk,rfl,rfl,hS,rfl⟩:=hrel;have hsz:((strB acc).size:Int) ≤ 100000:=by rw [zqie]; have:=hS.out.1; omega
  by_cases hlt:k < b.length
  ·have i1:(k:Int) < (b.length:Int):=by omega
   have hE:=hS.out.2;rw [zqjg (k:=k) hlt] at hE;obtain ⟨bb,off,rfl,hbl,hc0⟩:=HV.out.cell hlt;have hr0:=HBt.out.getD (d:=0) (by decide) (by decide) k
   have hcv:=zqb4 (zqy2 HV.out hlt (cap - k) (by omega)) (Bt.cons hr0.1 hr0.2 zqt6)
   have hs1:((strB [b.getD k 0]).size:Int) = 1:=by rw [zqie]; rfl
   generalize hc:b.getD k 0 = c at *;have i6:IntKind.i64.wrap ((k:Int) + 1) = (k:Int) + 1:=IntWalk.i64_in _ (by omega)
   clear hc
   by_cases h0:c = 0
   ·subst h0;have hadd:=zh (zqi6 acc [0]);generalize hst1:strB [0] = S1 at *;generalize hst:strB acc = S at *;have Hst:=zh hst;clear hst hst1
    by_cases h2:k + 1 < b.length
    ·have i2:¬ (b.length:Int) ≤ (k:Int) + 1:=by omega
     have i3:(k:Int) + 1 < (b.length:Int):=by omega
     have i4:(0:Int) ≤ (k:Int) + 1:=by omega
     rw [zqjg (k:=k + 1) h2] at hE;obtain ⟨bb',off',e',-,hc1⟩:=HV.out.cell h2;cases e'
     generalize hd:b.getD (k + 1) 0 = d at *;clear hd
     by_cases d0:d = 0
     ·subst d0;rw [zqmh] at hE;have HE:=zh hE;clear hE;go_wp2_with fail;exact bodyPost_ret (v:=.tuple #[.string S,.int .i64 ((k + 2:Nat):Int),.int .i64 0]) (by simp [results,Tryz.results239,go_sem]) rfl ⟨by rw [← HE.out]; unfold tripT; rw [Hst.out]; rfl,by trivial⟩
     ·have e0:(d == 0) = false:=by simpa using d0
      by_cases d1:d = 1
      ·subst d1;rw [zqmi] at hE;have HE:=zh hE;clear hE;go_wp2_with (simp only [hcv]);go_roundw
       case rel => exact ⟨k + 2,acc ++ [0],by omega,by rw [hadd.out],by go_num,zh ⟨by simp; have:=hS.out.1; omega,HE.out⟩,by trivial⟩
       case measure => simp [intOf] <;> omega
      ·have e1:(d == 1) = false:=by simpa using d1
       rw [zqog d0 d1] at hE;have HE:=zh hE;clear hE;go_wp2_with fail;exact bodyPost_ret (v:=.tuple #[.string ByteArray.empty,.int .i64 0,.int .i64 6]) (by simp [results,Tryz.results239,go_sem]; rfl) rfl ⟨by rw [← HE.out]; rfl,by trivial⟩
    ·have i2:(b.length:Int) ≤ (k:Int) + 1:=by omega
     have HE:=zh (hS.out.2.symm.trans (zqmg b k acc k h2));clear hE;go_wp2_with fail;exact bodyPost_ret (v:=.tuple #[.string ByteArray.empty,.int .i64 0,.int .i64 5]) (by simp [results,Tryz.results239,go_sem]; rfl) rfl ⟨by rw [HE.out]; rfl,by trivial⟩
   ·have e0:(c == 0) = false:=by simpa using h0
    have hadd:=zh (zqi6 acc [c]);rw [zqmf h0] at hE;have HE:=zh hE;generalize strB [c] = S1 at *;generalize strB acc = S at *;clear hE;go_wp2_with (simp only [hcv]);go_roundw
    case rel => exact ⟨k + 1,acc ++ [c],by omega,by rw [hadd.out],by go_num,zh ⟨by simp; have:=hS.out.1; omega,HE.out⟩,by trivial⟩
    case measure => simp [intOf] <;> omega
  ·have i1:¬ (k:Int) < (b.length:Int):=by omega
   have HE:=zh (hS.out.2.symm.trans (zqmg b k acc k (by omega)))
   go_wp2_with fail;exact bodyPost_ret (v:=.tuple #[.string ByteArray.empty,.int .i64 0,.int .i64 5]) (by simp [results,Tryz.results239,go_sem]; rfl) rfl ⟨by rw [HE.out]; rfl,by trivial⟩
end Go.Proofs.YtpgchfihedcdkaaGreatDoor
