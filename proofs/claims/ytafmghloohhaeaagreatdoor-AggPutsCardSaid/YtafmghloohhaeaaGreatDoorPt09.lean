/- Contracts that the law leans on: Codee. -/
import Derived.Test.YtafmghloohhaeaaGreatDoorPt02
import Derived.Test.YtafmghloohhaeaaGreatDoorPt07
import Derived.Test.YtafmghloohhaeaaGreatDoorPt08
namespace Go.Proofs.YtafmghloohhaeaaGreatDoor
set_option maxRecDepth 100000
open Go.RowKit
set_option linter.unusedVariables false
set_option maxRecDepth 100000
open Go.RowKit
set_option linter.unusedVariables false
theorem zqet {w wr w1:World} {o:Obj} (hb:Below w.heap.size w wr) (hg:(wr.alloc o).grownBy w1 (some wr.heap.size)):Below w.heap.size w w1 :=
 (hb.alloc hb.size o).grown hg (by have:=hb.size; simp; omega) (fun k hk => by have e:wr.heap.size = k:=Option.some.inj hk; have:=hb.size; omega)
theorem zqsh {x k:Nat} (hx:x < 18446744073709551616) (h:k < bytesN x):0 < x / 256 ^ k:=by
 have:=zqb2 x hx;rcases this.2 with h0 | h0
 ·omega
 ·have h1:256 ^ k ≤ 256 ^ (bytesN x - 1):=Nat.pow_le_pow_right (by decide) (by omega)
  exact Nat.div_pos (by omega) (zqbo k)
theorem zqnx {x k:Nat} (hx:x < 18446744073709551616) (h:bytesN x ≤ k):x / 256 ^ k = 0:=by
 have:=(zqb2 x hx).1;have h1:256 ^ bytesN x ≤ 256 ^ k:=Nat.pow_le_pow_right (by decide) h
 exact Nat.div_eq_of_lt (by omega)
theorem zqr7 (x k:Nat):bigN x (k + 1) = [((x / 256 ^ k % 256:Nat):Int)] ++ bigN x k:=rfl
def slLen:Value → Nat
 | .slice _ n _ => n
 | _ => 0
set_option maxHeartbeats 4000000 in
theorem zqh9 (x least:Nat) (w:World) (hx:x < 18446744073709551616) (hl:least ≤ 8):Calls Tryz.prog 54 #[.int .u64 x,.int .i64 least] w (BytesP w (bigN x (max least (bytesN x)))):=by
 obtain ⟨i0,hi,hz0,hz1,hz2⟩:=info_parts Tryz.infoU8;have hn:=zqau x hx;have HG:=zh (fun k => zqsh (k:=k) hx)
 have HD:=zh (fun k => zqnx (k:=k) hx)
 have HL:=zh (zqat x);have HX:=zh (show ((x:Nat):Int) = ((x / 256 ^ 0:Nat):Int) by simp)
 have HS:=zh (zqr7 x);have HN:=zh (show ∀ k,x / 256 ^ (k + 1) = x / 256 ^ k / 256 from fun k => by rw [Nat.pow_succ,Nat.div_div_eq_div_mul])
 generalize bytesN x = n at *;have HM:=zh (show max least n ≤ 8 by omega)
 go_enter Tryz.func54,Tryz.ntmps54;go_wp2_with fail;go_loopw [0,5] (fun xv ov wr => ∃ k:Nat,k ≤ max least n ∧ xv = .int .u64 ((x / 256 ^ k:Nat):Int) ∧ Hid (BOwn wr w.heap.size ov (bigN x k) ∧ Below w.heap.size w wr) ∧ slLen ov = k) (fun _ ov _ => max least n - slLen ov)
 case atStart => exact ⟨0,Nat.zero_le _,by rw [HX.out],zh ⟨own0 _ _,Below.refl _ _⟩,rfl⟩
 case round =>
  obtain ⟨k,hk,rfl,hS,hlen⟩:=hrel;obtain ⟨pa,pc,rfl⟩:=zqbf hS.out.1;simp only [HL.out] at hS hlen ⊢;have hle:(bigN x k).length ≤ 8:=by rw [HL.out]; have:=HM.out; omega
  have HLE:=zh hle;have HD0:=HD.out k;have HG0:=HG.out k;have HN0:=zh (HN.out k);have HS0:=zh (HS.out k);have hyx:x / 256 ^ k ≤ x:=Nat.div_le_self _ _;generalize x / 256 ^ k = y at *;have hw:IntKind.u64.wrap ((y:Int) / 256) = (y:Int) / 256:=by rw [IntKind.wrap_u64]; omega
  have hc:((y:Int) % 256) = ((y % 256:Nat):Int):=by omega
  have hu:IntKind.u8.wrap ((y:Int) % 256) = (y:Int) % 256:=by rw [IntKind.wrap_u8]; omega
  have Hc:=zh hc;clear hc hle
  by_cases hlt:k < max least n
  ·by_cases hy:y = 0
   ·have i1:¬ (0:Int) < (y:Int):=by omega
    have i2:(k:Int) < (least:Int):=by
     have:¬ k < n:=fun h => by have:=HG0 h; omega
     omega
    subst hy;go_wp2_with (at_builtin; refine zqaq _ (by rfl) _ _ 36 rfl w.heap.size 5 i0 (.int .u8 0) 1 Tryz.underlying36 hi hz0 hz1 hz2 rfl .u8 _ _ [0] (bigN x k) rfl rfl (World.ownsRow_lit wr #[.int .u8 (0)] 1 hS.out.2.size (by unfold maxLen; omega) rfl) ((Ints.own hS.out.1).below (zqab wr _)) (by have:=HLE.out; unfold maxLen; simp; omega) (by have:=HLE.out; simp; omega) (by have:=hS.out.2.size; simp; omega) ?_; intro v' w1 hown hgrow; have HQ:=zh (And.intro hown (zqet hS.out.2 hgrow)); obtain ⟨pv',lv',cv',rfl⟩:=zqac hown; clear hown hgrow)
    go_roundw
    case rel => exact ⟨k + 1,by omega,by rw [HN0.out]; rfl,zh ⟨by rw [HS0.out]; exact HQ.out.1,HQ.out.2⟩,by have:=zqbf HQ.out.1; obtain ⟨_,_,e⟩:=this; cases e; simp [slLen,HL.out]⟩
    case measure => obtain ⟨_,_,e⟩:=zqbf HQ.out.1; cases e; simp [slLen,HL.out]; omega
   ·have i1:(0:Int) < (y:Int):=by omega
    go_wp2_with ((at_builtin; refine zqaq _ (by rfl) _ _ 36 rfl w.heap.size 5 i0 (.int .u8 0) 1 Tryz.underlying36 hi hz0 hz1 hz2 rfl .u8 _ _ [(y:Int) % 256] (bigN x k) rfl rfl (World.ownsRow_lit wr #[.int .u8 ((y:Int) % 256)] 1 hS.out.2.size (by unfold maxLen; omega) rfl) ((Ints.own hS.out.1).below (zqab wr _)) (by have:=HLE.out; unfold maxLen; simp; omega) (by have:=HLE.out; simp; omega) (by have:=hS.out.2.size; simp; omega) ?_; intro v' w1 hown hgrow; have HQ:=zh (And.intro hown (zqet hS.out.2 hgrow)); obtain ⟨pv',lv',cv',rfl⟩:=zqac hown; clear hown hgrow))
    go_roundw
    case rel => exact ⟨k + 1,by omega,by rw [HN0.out]; push_cast; rfl,zh ⟨by rw [HS0.out,← Hc.out]; exact HQ.out.1,HQ.out.2⟩,by have:=zqbf HQ.out.1; obtain ⟨_,_,e⟩:=this; cases e; simp [slLen,HL.out]⟩
    case measure => obtain ⟨_,_,e⟩:=zqbf HQ.out.1; cases e; simp [slLen,HL.out]; omega
  ·obtain rfl:k = max least n:=by omega
   have hy:y = 0:=HD0 (by omega)
   subst hy;have i2:¬ ((max least n:Nat):Int) < (least:Int):=by omega
   go_wp2_with fail;go_ret;exact ⟨⟨_,rfl,hS.out.1⟩,hS.out.2⟩
set_option maxHeartbeats 2000000 in
theorem zqgu (x:Nat) (w:World) (hx:x < 18446744073709551616):Calls Tryz.prog 23 #[.int .u64 x] w (BytesP w (encU x)):=by
 obtain ⟨i0,hi,hz0,hz1,hz2⟩:=info_parts Tryz.infoU8;have hn:=zqau x hx;have HN:=zh (zqh9 x 0 w hx (by decide))
 rw [Nat.zero_max] at HN;have hR:=zh (show encU x = [(bytesN x:Int)] ++ bigN x (bytesN x) from rfl);have hL:=(zqat x (bytesN x)).symm;generalize bigN x (bytesN x) = l at *;generalize bytesN x = n at *;subst hL;have hu:IntKind.u8.wrap (l.length:Int) = l.length:=by rw [IntKind.wrap_u8]; omega
 go_enter Tryz.func23,Tryz.ntmps23;go_wp2_with fail;refine (HN.out).mono ?_; rintro e wr ⟨⟨v,rfl,ho⟩,hb⟩;obtain ⟨pa,pc,rfl⟩:=zqbf ho;have hS:=zh (And.intro ho hb);have HLE:=zh hn;clear ho hb HN;go_wp2_with (at_builtin; refine zqaq _ (by rfl) _ _ 36 rfl w.heap.size 5 i0 (.int .u8 0) 1 Tryz.underlying36 hi hz0 hz1 hz2 rfl .u8 _ _ [(l.length:Int)] l rfl rfl (World.ownsRow_lit wr #[.int .u8 ((l.length:Int))] 1 hS.out.2.size (by unfold maxLen; omega) rfl) ((Ints.own hS.out.1).below (zqab wr _)) (by have:=HLE.out; unfold maxLen; simp; omega) (by have:=HLE.out; simp; omega) (by have:=hS.out.2.size; simp; omega) ?_; intro v' w1 hown hgrow; have HQ:=zh (And.intro hown (zqet hS.out.2 hgrow)); obtain ⟨pv',lv',cv',rfl⟩:=zqac hown; clear hown hgrow)
 go_ret;exact ⟨⟨_,rfl,by rw [hR.out]; exact HQ.out.1⟩,HQ.out.2⟩
theorem zq1q (x k:Nat) (w:World) (hx:W64 x) (hk:keyI x = (k:Int)):Calls Tryz.prog 25 #[.float .f64 x] w (BytesP w (encF k)):=by
 have hr:=zqdu hx;have HK:=zh (zqyk x w hx);rw [hk] at HK hr;have hk8:=zqau k (by omega)
 have HL:=zh (fun w => zqh9 k 8 w (by omega) (by decide))
 rw [Nat.max_eq_left hk8] at HL;clear hk hk8;go_enter Tryz.func25,Tryz.ntmps25;go_wp2_with fail;refine (HK.out).mono ?_; rintro e w1 ⟨rfl,hd⟩;have HD:=zh hd.below;clear hd;go_wp2_with fail;refine (HL.out _).mono ?_; rintro e w2 ⟨⟨v,rfl,ho⟩,hb⟩;have HO:=zh (zqbu ho HD.out.size);have HB:=zh (zqaa HD.out hb);clear ho hb;go_wp2_with fail;go_ret;exact ⟨⟨v,rfl,HO.out⟩,HB.out⟩
set_option maxRecDepth 100000
open Go.RowKit
set_option linter.unusedVariables false
def flipL (k:Nat) (l:List Int):List Int:=(l.take k).map (fun x => 255 - x) ++ l.drop k
theorem zqwp (k:Nat) (l:List Int):(flipL k l).length = l.length:=by simp [flipL]; omega
theorem zqs5 (l:List Int):flipL 0 l = l:=by simp [flipL]
theorem zqwo (l:List Int):flipL l.length l = l.map (fun x => 255 - x):=by simp [flipL]
theorem zqs4 (k:Nat) (l:List Int) (h:k < l.length):(flipL k l).getD k 0 = l.getD k 0:=by
 unfold flipL;rw [List.getD,List.getElem?_append_right (by simp; omega)]
 simp [List.getD]
 congr 2; omega
theorem zqwq (k:Nat) (l:List Int) (h:k < l.length):(flipL k l).set k (255 - l.getD k 0) = flipL (k + 1) l:=by
 unfold flipL;rw [List.set_append_right _ _ (by simp; omega),List.take_succ_eq_append_getElem h,List.map_append,List.append_assoc]
 congr 1
 rw [List.drop_eq_getElem_cons h];have e:k - (List.map (fun x => 255 - x) (List.take k l)).length = 0:=by simp; omega
 rw [e,List.getD,List.getElem?_eq_getElem h]
 rfl
theorem zqs3 (y j:Nat) (hj:j < 8) (hy:y < 18446744073709551616):(255:Int) - ((y / 256 ^ j % 256:Nat):Int) = (((18446744073709551615 - y) / 256 ^ j % 256:Nat):Int):=by
 have h:j = 0 ∨ j = 1 ∨ j = 2 ∨ j = 3 ∨ j = 4 ∨ j = 5 ∨ j = 6 ∨ j = 7:=by omega
 rcases h with rfl | rfl | rfl | rfl | rfl | rfl | rfl | rfl <;> simp only [show (256:Nat) ^ 0 = 1 by rfl,show (256:Nat) ^ 1 = 256 by rfl,show (256:Nat) ^ 2 = 65536 by rfl,show (256:Nat) ^ 3 = 16777216 by rfl,show (256:Nat) ^ 4 = 4294967296 by rfl,show (256:Nat) ^ 5 = 1099511627776 by rfl,show (256:Nat) ^ 6 = 281474976710656 by rfl,show (256:Nat) ^ 7 = 72057594037927936 by rfl] <;> omega
theorem zqme (y:Nat) (hy:y < 18446744073709551616):∀ n,n ≤ 8 → (bigN y n).map (fun x => 255 - x) = bigN (18446744073709551615 - y) n
 | 0,_ => rfl
 | n + 1,h => by
  rw [bigN,bigN,List.map_cons,zqme y hy n (by omega),zqs3 y n (by omega) hy]
theorem zqza {l:List Int} (h:Bt l) (k:Nat):0 ≤ l.getD k 0 ∧ l.getD k 0 ≤ 255:=h.getD (by decide) (by decide) k
set_option maxHeartbeats 4000000 in
theorem zq1s (x:Int) (w:World) (h0:0 ≤ x) (h1:x ≤ 9223372036854775807):Calls Tryz.prog 24 #[.int .i64 x] w (BytesP w (encI x)):=by
 have hu64:IntKind.u64.wrap x = (x.toNat:Int):=by rw [IntKind.wrap_u64]; omega
 have hX:x.toNat < 18446744073709551616:=by omega
 have hR:=zh (show encI x = (9 + bytesN x.toNat:Int) :: bigN x.toNat (bytesN x.toNat) by unfold encI; rw [if_pos h0])
 have hn:=zqau x.toNat hX;have HU:=zh (zqgu x.toNat w hX);have hE:encU x.toNat = (bytesN x.toNat:Int) :: bigN x.toNat (bytesN x.toNat):=rfl;rw [hE] at HU;clear hE;generalize bytesN x.toNat = n at *;generalize bigN x.toNat n = l at *;generalize x.toNat = X at *;have hu:IntKind.u8.wrap ((n:Int) + 9) = n + 9:=by rw [IntKind.wrap_u8]; omega
 go_enter Tryz.func24,Tryz.ntmps24;go_wp2_with fail;refine (HU.out).mono ?_; rintro e w1 ⟨⟨v,rfl,ho⟩,hb⟩;obtain ⟨g,cap,rfl,hg,hg2⟩:=zqxz ho (by simp)
 have hc:=zqo2 ho (j:=0) (by simp)
 rw [List.getD_cons_zero] at hc;have hs:=zqo3 ho 0 ((n:Int) + 9);rw [List.set_cons_zero] at hs;have HQ:=zh (And.intro hs.1 (hb.grown hs.2 hb.size (fun k hk => by cases hk; exact hg)))
 have hcc:=hc.1;have hcf:=hc.2;have e0:((((n:Int) :: l).length:Nat):Int) = (l.length:Int) + 1:=by simp
 simp only [List.length_cons] at HQ ⊢;clear ho hb hs hc;go_wp2_with fail;go_ret;refine ⟨⟨_,rfl,?_⟩,HQ.out.2⟩;rw [hR.out,Int.add_comm 9];exact HQ.out.1
set_option maxHeartbeats 8000000 in
theorem zq1r (x:Int) (w:World) (h0:-9223372036854775808 ≤ x) (h1:x < 0):Calls Tryz.prog 24 #[.int .i64 x] w (BytesP w (encI x)):=by
 obtain ⟨i0,hi,hz0,hz1,hz2⟩:=info_parts Tryz.infoU8;have hw:IntKind.i64.wrap (-1 - x) = -1 - x:=IntWalk.i64_in _ (by omega)
 have hu64:IntKind.u64.wrap (-1 - x) = ((-1 - x).toNat:Int):=by rw [IntKind.wrap_u64]; omega
 have hX:(x % 18446744073709551616).toNat = 18446744073709551615 - (-1 - x).toNat:=by omega
 have hY:(-1 - x).toNat < 18446744073709551616:=by omega
 have hn:=zqau (-1 - x).toNat hY;have hF:=zqme (-1 - x).toNat hY (bytesN (-1 - x).toNat) hn;have hR:encI x = (8 - bytesN (-1 - x).toNat:Int) :: (bigN (-1 - x).toNat (bytesN (-1 - x).toNat)).map (fun x => 255 - x):=by unfold encI; rw [if_neg (by omega),hX,← hF]
 have HH:=zh (zqh9 (-1 - x).toNat 0 w hY (by decide))
 rw [Nat.zero_max] at HH;have hL:=(zqat (-1 - x).toNat (bytesN (-1 - x).toNat)).symm;have HBt:=zh (zqza (zqc9 (-1 - x).toNat (bytesN (-1 - x).toNat)));clear hX hF;generalize bigN (-1 - x).toNat (bytesN (-1 - x).toNat) = l at *;generalize bytesN (-1 - x).toNat = n at *;generalize (-1 - x).toNat = Y at *;subst hL;have hR:=zh hR;have hu:IntKind.u8.wrap (8 - (l.length:Int)) = 8 - l.length:=by rw [IntKind.wrap_u8]; omega
 have hs8:IntKind.i64.wrap (8 - (l.length:Int)) = 8 - l.length:=IntWalk.i64_in _ (by omega)
 go_enter Tryz.func24,Tryz.ntmps24;go_wp2_with fail;refine (HH.out).mono ?_; rintro e w1 ⟨⟨v,rfl,ho⟩,hb⟩;have HO:=zh ho;have HB:=zh hb;obtain ⟨pa,pc,rfl⟩:=zqbf ho;have hf:pa = none ∨ ∃ g,pa = some ⟨g,0,none⟩ ∧ w.heap.size ≤ g:=by
  rcases ho.2 with ⟨e,-⟩ | ⟨g,cap,cur,e,h2,h3⟩
  ·left; injection e
  ·right; injection e with e1; exact ⟨g,e1,h2⟩
 clear ho hb;have HF:=zh hf;clear hf;go_wp2_with fail;go_loopw [5] (fun i wr => ∃ k:Nat,k ≤ l.length ∧ i = .int .i64 k ∧ Hid (wr.ownsRow w.heap.size 5 1 (.slice pa l.length pc) l.length ((flipL k l).map (Value.int .u8)) ∧ Below w.heap.size w wr)) (fun i _ => l.length - (intOf i).toNat)
 case atStart => exact ⟨0,Nat.zero_le _,rfl,zh ⟨by rw [zqs5]; exact HO.out,HB.out⟩⟩
 case round =>
  obtain ⟨k,hk,rfl,hS⟩:=hrel;clear HO HB
  by_cases hlt:k < l.length
  ·have i1:(k:Int) < (l.length:Int):=by omega
   have hno:pa ≠ none:=by
    rintro rfl;rcases hS.out.1.2 with ⟨-,e⟩ | ⟨g,cap,cur,e,-⟩
    ·omega
    ·cases e
   obtain ⟨g,rfl,hg⟩:∃ g,pa = some ⟨g,0,none⟩ ∧ w.heap.size ≤ g:=by
    rcases HF.out with h | h
    ·exact absurd h hno
    ·exact h
   have hc:=zqo2 hS.out.1 (j:=k) (by rw [zqwp]; exact hlt)
   rw [zqs4 k l hlt] at hc;have hs:=zqo3 hS.out.1 k (255 - l.getD k 0);rw [zqwq k l hlt] at hs;have HQ:=zh (And.intro hs.1 (hS.out.2.grown hs.2 hS.out.2.size (fun k hk => by cases hk; exact hg)))
   obtain ⟨q1,q2⟩:=HBt.out k;have hcc:=hc.1;have hcf:=hc.2;clear hc hs hno hS HF;generalize l.getD k 0 = z at *;have hu2:IntKind.u8.wrap (255 - z) = 255 - z:=by rw [IntKind.wrap_u8]; omega
   go_wp2_with fail;go_roundw
   case rel => exact ⟨k + 1,by omega,by go_num,HQ⟩
   case measure => simp [intOf]; omega
  ·obtain rfl:k = l.length:=by omega
   have i1:¬ ((l.length:Nat):Int) < (l.length:Nat):=by omega
   have hP:=hS.out.1;rw [zqwo] at hP;have hP:=zh (And.intro (show BOwn _ w.heap.size (.slice pa l.length pc) (l.map fun x => 255 - x) by unfold BOwn; rw [List.length_map]; exact hP) hS.out.2)
   have HI:=zh (show Ints .u8 _ (.slice pa l.length pc) (l.map fun x => 255 - x) from Ints.own hP.out.1)
   clear hS HF;have HLE:=zh (show (l.map fun x => 255 - x).length ≤ 8 by rw [List.length_map]; exact hn)
   generalize (l.map fun x => 255 - x) = l' at *
   go_wp2_with ((at_builtin; refine zqaq _ (by rfl) _ _ 36 rfl w.heap.size 5 i0 (.int .u8 0) 1 Tryz.underlying36 hi hz0 hz1 hz2 rfl .u8 _ _ [8 - (l.length:Int)] l' rfl rfl (World.ownsRow_lit _ #[.int .u8 (8 - (l.length:Int))] 1 hP.out.2.size (by unfold maxLen; omega) rfl) (HI.out.below (zqab _ _)) (by have:=HLE.out; unfold maxLen; simp; omega) (by have:=HLE.out; simp; omega) (by have:=hP.out.2.size; simp; omega) ?_; intro v' w1 hown hgrow; have HQ:=zh (And.intro hown (zqet hP.out.2 hgrow)); obtain ⟨pv',lv',cv',rfl⟩:=zqac hown; clear hown hgrow))
   go_ret;exact ⟨⟨_,rfl,HQ.out.1⟩,HQ.out.2⟩
theorem zqgt (x:Int) (w:World) (h0:-9223372036854775808 ≤ x) (h1:x ≤ 9223372036854775807):Calls Tryz.prog 24 #[.int .i64 x] w (BytesP w (encI x)):=by
 by_cases h:0 ≤ x
 ·exact zq1s x w h h1
 ·exact zq1r x w h0 (by omega)
end Go.Proofs.YtafmghloohhaeaaGreatDoor
