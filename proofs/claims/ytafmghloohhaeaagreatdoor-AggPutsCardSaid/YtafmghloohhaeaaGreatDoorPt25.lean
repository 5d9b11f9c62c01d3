/- Contracts that the law leans on: Schk Scia Schm. -/
import Derived.Deep.Slices
import Derived.Deep.Fields
import Derived.ChangeSame
import Derived.ChangeSlices
import Derived.Lib.SmallJoins
import Derived.SliceStrings
import Derived.Test.YtafmghloohhaeaaGreatDoorPt02
import Derived.Test.YtafmghloohhaeaaGreatDoorPt24
namespace Go.Proofs.YtafmghloohhaeaaGreatDoor
set_option maxRecDepth 100000
open Go.RowKit
set_option linter.unusedVariables false
theorem zqej {P:Program} (w:World) {ops:Array Oper} {o:Oper} {a:Act} {K:Act → World → Prop} {Q:Exit → Act → World → Prop} {E:Prop} (hgd:o.guard = none) (s x:Operand) (t:TypeId)
  (ho:o.op = .call { callee:=.builtin .append,args:=#[s,x],argTypes:=#[t,t] })
  (base:Nat) (e:TypeId) (i:TypeInfo) (z:Value) (bytes:Nat) (ht:P.underlying t = some (.slice e)) (hi:P.info? e = some i) (hz:i.zero = some z) (hsize:i.size = 1) (hby:i.bytes = bytes) (hzs:z.cells.size = 1)
  (v v2:Value) (zs ns:List ByteArray) (hs:a.eval s = v) (hx:a.eval x = v2) (hown:w.ownsRow base e 1 v zs.length (zs.map Value.string)) (hv2:Strs w v2 ns) (h63:zs.length + ns.length ≤ maxLen) (hbytes:(zs.length + ns.length) * bytes ≤ 140737488355328) (hbase:base ≤ w.heap.size)
  (h:∀ v' w',w'.ownsRow base e 1 v' (zs ++ ns).length ((zs ++ ns).map Value.string) → w.grownBy w' v.ownBlock → K (a.put o.dst v') w') :
  if Region.wanted o (yielded ops a.tmps) = true then Oper.wp P o a w K Q else E:=by
 have hw:Region.wanted o (yielded ops a.tmps) = true:=by simp [Region.wanted,hgd]
 rw [if_pos hw];obtain ⟨v',w',hrun,r1,r2⟩:=zqey (P:=P) w base t o.type e i z bytes ht hi hz hsize hby hzs v v2 zs ns hown hv2 h63 hbytes hbase;unfold Oper.wp;simp [execOp,ho,resolve,invoke,builtin,hs,hx,hrun,Result.andThen];exact h v' w' r1 r2
theorem zqtz (S:Sc):(S.ds.map Prod.fst ++ S.is) ++ S.ns = namesL S:=rfl
theorem zqvc {w:World} {B B' E n:Nat} {v:Value} {xs:List Value} (h:w.ownsRow B E 1 v n xs) (hb:B' ≤ B):w.ownsRow B' E 1 v n xs:=by
 refine ⟨h.1,?_⟩;rcases h.2 with h0 | ⟨g,cap,cur,h1,h2,h3⟩
 ·exact .inl h0
 ·exact .inr ⟨g,cap,cur,h1,Nat.le_trans hb h2,h3⟩
set_option maxHeartbeats 4000000 in
theorem zqjd (w:World) (D I M V:Value) (S:Sc) (h:Sch4 w D I M V S) (hn:S.ds.length ≤ 100 ∧ S.is.length ≤ 100 ∧ S.ns.length ≤ 100) :
  Calls Tryz.prog 12 #[SchV D I M V] w (MadeS w.heap.size w (namesL S)):=by
 obtain ⟨i0,hi,hz0,hz1,hz2⟩:=info_parts Tryz.infoStr;have HB0:=zh (zqab w (SchO D I M V));have HX:=zh (zqa7 w D I M V);have HH:=zh h;have hd:=h.d;obtain ⟨⟨a,c,rfl⟩,⟨a2,c2,rfl⟩,⟨a3,c3,rfl⟩,a4,c4,rfl⟩:=h.slices;obtain ⟨a',cap',e',h1,h2,h3⟩:=hd;obtain ⟨rfl,rfl⟩:a = a' ∧ c = cap':=by injection e' with e1 e2 e3; exact ⟨e1,e3⟩
 have HC:=zh h3;have HT:=zh (fun k (hk:k < S.ds.length) => show ((S.ds.take k).map Prod.fst) ++ [dn S.ds k] = (S.ds.take (k + 1)).map Prod.fst by rw [List.take_add_one,List.getElem?_eq_getElem hk,zqss hk,List.map_append]; rfl)
 have HL:=zh (fun k => show ((S.ds.take k).map Prod.fst).length ≤ 100 by simp; omega)
 have HE:=zh (show (S.ds.take S.ds.length).map Prod.fst = S.ds.map Prod.fst by rw [List.take_length])
 have HN:=zh (zqtz S);have HDl:=zh (show (S.ds.map Prod.fst).length ≤ 100 by simp; omega)
 clear h h3 e';go_enter Tryz.func12,Tryz.ntmps12;go_wp2_with fail;generalize hW0:w.alloc (SchO (.slice a S.ds.length c) (.slice a2 S.is.length c2) (.slice a3 S.ns.length c3) (.slice a4 S.vs.length c4)) = W0 at *;go_loopw [3,4] (fun lv i wr => ∃ k:Nat,k ≤ S.ds.length ∧ i = .int .i64 k ∧ Hid (SOwn wr W0.heap.size lv ((S.ds.take k).map Prod.fst) ∧ Below W0.heap.size W0 wr)) (fun _ i _ => S.ds.length - (intOf i).toNat)
 case atStart => exact ⟨0,Nat.zero_le _,rfl,zh ⟨sown0 _ _,Below.refl _ _⟩⟩
 case round =>
  obtain ⟨k,hk,rfl,HS⟩:=hrel;obtain ⟨x0,x1,x2,x3⟩:=(HX.out.below HS.out.2).reads
  by_cases hlk:k < S.ds.length
  ·have hlk':(k:Int) < (S.ds.length:Int):=by omega
   rcases HC.out with h3 | ⟨b,off,rfl,hlt,hc⟩
   ·rw [h3] at hlk; simp at hlk
   obtain ⟨c0,c1⟩:=hc k hlk;have c0:wr.cell? ⟨b,off + k * 2,none⟩ = _:=((zqaa HB0.out HS.out.2).cell (p:=⟨b,off + k * 2,none⟩) hlt).trans c0;have HTk:=zh (HT.out k hlk);have HLk:=zh (HL.out k);clear hc c1;generalize dn S.ds k = x at *;generalize (S.ds.take k).map Prod.fst = L at *;obtain ⟨pa,pl,pc,rfl⟩:=zqac HS.out.1;have hsz:=HS.out.2.size;go_wp2_with (at_builtin; refine zqcb _ (by rfl) _ _ 23 rfl W0.heap.size 9 i0 (.string ⟨#[]⟩) 16 Tryz.underlying23 hi hz0 hz1 hz2 rfl _ _ L [x] rfl rfl (HS.out.1.alloc _) (zqij rfl) (by have:=HLk.out; unfold maxLen; simp; omega) (by have:=HLk.out; simp; omega) (by simp; omega) ?_; intro v' w1 hown hgrow; have HQ:=zh (And.intro hown (zqas (HS.out.2.alloc hsz _) (by simp; omega) (HS.out.1.alloc _) hgrow)); obtain ⟨pv',lv',cv',rfl⟩:=zqac hown; clear hown hgrow)
   go_roundw
   case rel => exact ⟨k + 1,by omega,by go_num,zh ⟨by rw [← HTk.out]; exact HQ.out.1,HQ.out.2⟩⟩
   case measure => simp [intOf]; omega
  ·have hke:k = S.ds.length:=by omega
   subst hke;have HS2:=HS.out;rw [HE.out] at HS2;have HS3:=zh HS2;clear HS2;have HLs:=zh (show (S.ds.map Prod.fst ++ S.is).length ≤ 200 by have:=HDl.out; rw [List.length_append]; omega)
   generalize S.ds.map Prod.fst = L at *;obtain ⟨pa,pl,pc,rfl⟩:=zqac HS3.out.1;go_upto_region 6 with fail;have hk:wr.drew.cell? ⟨w.heap.size,0,none⟩ = some (.slice a S.ds.length c) ∧ wr.drew.cell? ⟨w.heap.size,1,none⟩ = some (.slice a2 S.is.length c2) ∧ wr.drew.cell? ⟨w.heap.size,2,none⟩ = some (.slice a3 S.ns.length c3) ∧ wr.drew.cell? ⟨w.heap.size,3,none⟩ = some (.slice a4 S.vs.length c4):=⟨by simp [x0],by simp [x1],by simp [x2],by simp [x3]⟩
   have hBw:Below W0.heap.size W0 wr.drew:=HS3.out.2.drew;have hO:SOwn wr.drew W0.heap.size (.slice pa pl pc) L:=HS3.out.1.drew;clear x0 x1 x2 x3;go_region_held3 (fun w' => w'.cell? ⟨w.heap.size,0,none⟩ = some (.slice a S.ds.length c) ∧ w'.cell? ⟨w.heap.size,1,none⟩ = some (.slice a2 S.is.length c2) ∧ w'.cell? ⟨w.heap.size,2,none⟩ = some (.slice a3 S.ns.length c3) ∧ w'.cell? ⟨w.heap.size,3,none⟩ = some (.slice a4 S.vs.length c4)) (with_reducible exact hk)
    (first
     | (refine zqej _ (by rfl) _ _ _ (by rfl) W0.heap.size 9 i0 (.string ⟨#[]⟩) 16 Tryz.underlying23 hi hz0 hz1 hz2 (by rfl) _ _ L S.is (by rfl) (by rfl) hO (HH.out.i.below (zqaa HB0.out hBw)) (by have:=HDl.out; unfold maxLen; omega) (by have:=HDl.out; omega) hBw.size ?_; intro v' w3 hown hgrow; have hO2:=hown; have hBw2:=zqas hBw hBw.size hO hgrow; have hk:=zqbh hBw2 (HX.out.reads); obtain ⟨pv',lv',cv',rfl⟩:=zqac hown; clear hown hgrow)
     | (refine zqej _ (by rfl) _ _ _ (by rfl) W0.heap.size 9 i0 (.string ⟨#[]⟩) 16 Tryz.underlying23 hi hz0 hz1 hz2 (by rfl) _ _ (L ++ S.is) S.ns (by rfl) (by rfl) hO2 (HH.out.n.below (zqaa HB0.out hBw2)) (by have:=HLs.out; unfold maxLen; omega) (by have:=HLs.out; omega) hBw2.size ?_; intro v' w3 hown hgrow; have HQ:=zh (And.intro hown (zqas hBw2 hBw2.size hO2 hgrow)); have hk:=zqbh HQ.out.2 (HX.out.reads); obtain ⟨pv',lv',cv',rfl⟩:=zqac hown; clear hown hgrow))
   clear hk hO hO2;go_wp2_with fail;go_ret;refine ⟨⟨_,rfl,?_⟩,zqaa HB0.out HQ.out.2⟩;rw [← HN.out];exact zqvc HQ.out.1 HB0.out.size
set_option maxRecDepth 100000
open Go.RowKit
set_option linter.unusedVariables false
set_option maxHeartbeats 4000000 in
theorem zqu1 (w:World) (D I M V:Value) (S:Sc) (m:Int) (h:Sch4 w D I M V S) (hn:S.ds.length ≤ 6) (hz:sizB S.ds = true) (m0:0 ≤ m) (m1:m ≤ 4294967295) :
  Calls Tryz.prog 36 #[SchV D I M V,.int .u32 m] w fun e w' => e = .returned (.int .u64 (keysL S.ds m S.ds.length)) ∧ Below w.heap.size w w':=by
 have HB0:=zh (zqab w (SchO D I M V));have HX:=zh (zqa7 w D I M V);have hd:=h.d;obtain ⟨⟨a,c,rfl⟩,⟨a2,c2,rfl⟩,⟨a3,c3,rfl⟩,a4,c4,rfl⟩:=h.slices;obtain ⟨a',cap',e',h1,h2,h3⟩:=hd;obtain ⟨rfl,rfl⟩:a = a' ∧ c = cap':=by injection e' with e1 e2 e3; exact ⟨e1,e3⟩
 have HC:=zh h3;have HKn:=zh (fun k => show keysL S.ds m (k + 1) = if m / 2 ^ k % 2 = 1 then keysL S.ds m k * dz S.ds k else keysL S.ds m k from rfl)
 have HR:=zh (fun k hk => And.intro (zqd1 m hz k hk) (zqef hz k hk))
 have HZ:=zh (fun k (hk:k < S.ds.length) => zqcy hz hk)
 have HI:=zh (fun w k (hk:k ≤ 31) => zqml w m k hk m0 m1)
 clear h h3 e' hz;go_enter Tryz.func36,Tryz.ntmps36;go_wp2_with fail;generalize hW0:w.alloc (SchO (.slice a S.ds.length c) (.slice a2 S.is.length c2) (.slice a3 S.ns.length c3) (.slice a4 S.vs.length c4)) = W0 at *;go_loopw [5,6] (fun pv i wr => ∃ k:Nat,k ≤ S.ds.length ∧ i = .int .i64 k ∧ W0 = wr ∧ ∃ p:Int,pv = .int .u64 p ∧ 1 ≤ p ∧ p ≤ 1099511627776 ∧ Hid (p = keysL S.ds m k)) (fun _ i _ => S.ds.length - (intOf i).toNat)
 case atStart => exact ⟨0,Nat.zero_le _,rfl,rfl,1,rfl,by decide,by decide,zh rfl⟩
 case round =>
  obtain ⟨k,hk,rfl,rfl,p,rfl,hp0,hp1,HE⟩:=hrel;obtain ⟨x0,x1,x2,x3⟩:=HX.out.reads
  by_cases hlk:k < S.ds.length
  ·have hlk':(k:Int) < (S.ds.length:Int):=by omega
   have HIk:=zh (HI.out W0 k (by omega))
   have HKk:=zh (HKn.out k);rw [← HE.out] at HKk
   by_cases hbit:m / 2 ^ k % 2 = 1
   ·rcases HC.out with h3 | ⟨b,off,rfl,hlt,hc⟩
    ·rw [h3] at hlk; simp at hlk
    obtain ⟨c0,c1⟩:=hc k hlk;have c1:W0.cell? ⟨b,off + k * 2 + 1,none⟩ = _:=(HB0.out.cell (p:=⟨b,off + k * 2 + 1,none⟩) hlt).trans c1;have hz:=HZ.out k hlk;have hr:=HR.out (k + 1) (by omega)
    have hq:=zqex hp0 hp1 hz.1 hz.2.1;have HRk:=zh (show 1 ≤ keysL S.ds m (k + 1) ∧ keysL S.ds m (k + 1) ≤ 1099511627776 by omega)
    generalize dz S.ds k = z at *;have i1:IntKind.u64.wrap z = z:=by rw [IntKind.wrap_u64]; omega
    have i2:IntKind.u64.wrap (p * z) = p * z:=by rw [IntKind.wrap_u64]; omega
    have HE3:=zh hq;rw [decide_eq_true hbit] at HIk;rw [if_pos hbit] at HKk;clear hr hz hq hbit hc c0;go_wp2_with fail;refine (HIk.out).mono ?_; rintro e w1 ⟨rfl,rfl⟩;go_wp2_with fail;go_roundw
    case rel => exact ⟨k + 1,by omega,by go_num,by trivial,p * z,rfl,HE3.out.1,by rw [← HKk.out]; exact HRk.out.2,zh HKk.out.symm⟩
    case measure => simp [intOf]; omega
   ·rw [decide_eq_false hbit] at HIk;rw [if_neg hbit] at HKk;clear hbit;go_wp2_with fail;refine (HIk.out).mono ?_; rintro e w1 ⟨rfl,rfl⟩;go_wp2_with fail;go_roundw
    case rel => exact ⟨k + 1,by omega,by go_num,by trivial,p,rfl,hp0,hp1,zh HKk.out.symm⟩
    case measure => simp [intOf]; omega
  ·have:k = S.ds.length:=by omega
   subst this;have HE2:=zh HE.out;clear HE;go_wp2_with fail;go_ret;rw [HE2.out];exact ⟨rfl,HB0.out⟩
def AnyB (e:Ending):Prop:=∃ b,e = .returned (.bool b)
set_option maxHeartbeats 4000000 in
theorem zqrq (w:World) (D I M V:Value) (S:Sc) (h:Sch4 w D I M V S) :
  Calls Tryz.prog 4 #[SchV D I M V] w fun e w' => AnyB e ∧ Below w.heap.size w w':=by
 have HB0:=zh (zqab w (SchO D I M V));have HX:=zh (zqa7 w D I M V);have HN:=zh (fun w1 (hb:Below w.heap.size w w1) hn => zqjd w1 D I M V S (h.below hb) hn)
 obtain ⟨⟨a,c,rfl⟩,⟨a2,c2,rfl⟩,⟨a3,c3,rfl⟩,a4,c4,rfl⟩:=h.slices
 by_cases hl:S.ds.length ≤ 100 ∧ S.is.length ≤ 100 ∧ S.ns.length ≤ 100 ∧ S.vs.length ≤ 100
 ·obtain ⟨l1,l2,l3,l4⟩:=hl;have k1:¬ (100:Int) < (S.ds.length:Int):=by omega
  have k2:¬ (100:Int) < (S.is.length:Int):=by omega
  have k3:¬ (100:Int) < (S.ns.length:Int):=by omega
  have k4:¬ (100:Int) < (S.vs.length:Int):=by omega
  clear h;go_enter Tryz.func4,Tryz.ntmps4;go_wp2_with fail;refine (HN.out _ HB0.out ⟨l1,l2,l3⟩).mono ?_; rintro e w1 ⟨⟨v,rfl,hv⟩,hb⟩;have HS:=zh (Strs.own hv);have HB1:=zh (zqaa HB0.out hb);obtain ⟨pa,pl,pc,rfl⟩:=zqac hv;clear hv hb;generalize namesL S = Z at *;obtain ⟨a',cap',e',h1,h2,h3⟩:=HS.out;injection e' with e1 e2 e3;subst e1 e2 e3;have HC:=zh h3;clear h3;go_wp2_with fail;go_loopw [4] (fun i wr => ∃ k:Nat,k ≤ Z.length ∧ i = .int .i64 k ∧ w1 = wr) (fun i _ => Z.length - (intOf i).toNat)
  case atStart => exact ⟨0,Nat.zero_le _,rfl,rfl⟩
  case round =>
   obtain ⟨k,hk,rfl,rfl⟩:=hrel
   by_cases hlk:k < Z.length
   ·have hlk':(k:Int) < (Z.length:Int):=by omega
    rcases HC.out with h3 | ⟨b,off,rfl,hlt,hc⟩
    ·rw [h3] at hlk; simp at hlk
    have hx:=hc k hlk;generalize txt Z k = x at *;clear hc
    by_cases hs:(100:Int) < (x.size:Int)
    ·go_wp2_with fail;go_ret;exact ⟨⟨_,rfl⟩,HB1.out⟩
    ·go_wp2_with fail;go_roundw
     case rel => exact ⟨k + 1,by omega,by go_num,by trivial⟩
     case measure => simp [intOf]; omega
   ·have:k = Z.length:=by omega
    subst this;go_wp2_with fail;go_ret;exact ⟨⟨_,rfl⟩,HB1.out⟩
 ·clear h;go_enter Tryz.func4,Tryz.ntmps4;go_wp2
  all_goals first
   | (exfalso; omega)
   | (go_ret; exact ⟨⟨_,rfl⟩,HB0.out⟩)
set_option maxRecDepth 100000
open Go.RowKit
set_option linter.unusedVariables false
set_option maxHeartbeats 8000000 in
theorem zqq5 (w:World) (D I M V:Value) (S:Sc) (h:Sch4 w D I M V S) (hw:SWf S) :
  Calls Tryz.prog 33 #[SchV D I M V] w fun e w' => e = .returned (.int .i64 (checkL S)) ∧ Below w.heap.size w w':=by
 have HE:=zh (show checkL S = if cntB S = false then 3 else if goodN (namesL S) = false then 8 else if 0 ≤ twiceL (namesL S) then 9 else if sizB S.ds = false then 2 else if vieB (fullL S.ds) S.vs = false then 6 else 0 from rfl)
 have HB0:=zh (zqab w (SchO D I M V));have HX:=zh (zqa7 w D I M V);have HH:=zh h;have HW:=zh hw;have HN:=zh (fun w1 (hb:Below w.heap.size w w1) hn => zqjd w1 D I M V S (h.below hb) hn)
 obtain ⟨⟨a,c,rfl⟩,⟨a2,c2,rfl⟩,⟨a3,c3,rfl⟩,a4,c4,rfl⟩:=h.slices
 by_cases hc:cntB S = true
 ·obtain ⟨l0,l1,l2,l3,l4⟩:=zqcf.1 hc;have k0:¬ (S.ds.length:Int) < 1:=by omega
  have k1:¬ (6:Int) < (S.ds.length:Int):=by omega
  have k2:¬ (3:Int) < (S.is.length:Int):=by omega
  have k3:¬ (2:Int) < (S.ns.length:Int):=by omega
  have k4:¬ (15:Int) < (S.vs.length:Int):=by omega
  have hnl:=zqk5 hc;rw [hc] at HE;have HIs:=zh (fun k (hk:k < (namesL S).length) wr => zq0e (txt (namesL S) k) wr (by rw [zqdi hk]; exact zqgl HW.out _ (List.getElem_mem hk)))
  have HT:=zh (fun v w' (hs:Strs w' v (namesL S)) => zqrk v (namesL S) w' hs)
  have HG0:=zh (@zqiy (namesL S));have HG1:=zh (fun k => @zqky (namesL S) k)
  have HZ0:=zh (@zqm6 S.ds);have HZ1:=zh (fun k => @zqpb S.ds k)
  have HP:=zh (fun k => @zqew S.ds k)
  have HWz:=zh (fun k (hk:k < S.ds.length) => show -9223372036854775808 ≤ dz S.ds k ∧ dz S.ds k ≤ 9223372036854775807 by rw [zqit hk]; exact (hw.d _ (List.getElem_mem hk)).2)
  have HV0:=zh (@zqnj (fullL S.ds) S.vs);have HV1:=zh (fun k => @zqph (fullL S.ds) S.vs k)
  have HVd:=zh (fun k => show vieAt (fullL S.ds) S.vs k = (decide (S.vs.getD k 0 < fullL S.ds) && (decide (k = 0) || decide (S.vs.getD (k - 1) 0 < S.vs.getD k 0))) from rfl)
  have HWv:=zh (fun k (hk:k < S.vs.length) => show 0 ≤ S.vs.getD k 0 ∧ S.vs.getD k 0 ≤ 4294967295 by
   have:S.vs.getD k 0 = S.vs[k]:=by simp [List.getD,hk]
   rw [this]; exact hw.v _ (List.getElem_mem hk))
  have HTw:=zh (fun w => zqke w S.ds.length (by omega))
  have HSu:=zh (fun w x h0 h1 => (zqm8 w x S.ds.length l1 h0 h1).mono fun e w' h => show e = .returned (.bool (decide (x < 2 ^ S.ds.length))) ∧ ∃ m,w' = w.drewN m from ⟨h.1,0,h.2.symm⟩)
  have hf:=zqct l1;have hfe:fullL S.ds = 2 ^ S.ds.length - 1:=rfl;generalize (2:Int) ^ S.ds.length = p2 at *;rw [hfe] at HE HV0 HV1 HVd;have hf0:IntKind.u32.wrap (p2 - 1) = p2 - 1:=by rw [IntKind.wrap_u32]; exact hf.1
  generalize hfu:p2 - 1 = fu at *;obtain rfl:p2 = fu + 1:=by omega
  clear hfu hfe h hw hc;have HD:=zh HH.out.d;have HVs:=zh HH.out.v;generalize goodN (namesL S) = g at *;generalize twiceL (namesL S) = tw at *;generalize sizB S.ds = sz at *;generalize vieB fu S.vs = vi at *;go_enter Tryz.func33,Tryz.ntmps33;go_wp2_with fail;refine (HN.out _ HB0.out ⟨by omega,by omega,by omega⟩).mono ?_; rintro e w1 ⟨⟨v,rfl,hv⟩,hb⟩
  have HS:=zh (Strs.own hv);have HB1:=zh hb;obtain ⟨pa,pl,pc,rfl⟩:=zqac hv;clear hv hb k0 k1 k2 k3 k4;generalize hW0:w.alloc (SchO (.slice a S.ds.length c) (.slice a2 S.is.length c2) (.slice a3 S.ns.length c3) (.slice a4 S.vs.length c4)) = W0 at *;generalize namesL S = Z at *;have hS:=HS.out;obtain ⟨a',cap',e',h1,h2,h3⟩:=hS;injection e' with e1 e2 e3;subst e1 e2 e3;have HC:=zh h3;clear h3;go_wp2_with fail;go_loopw [4] (fun i wr => ∃ k:Nat,k ≤ Z.length ∧ i = .int .i64 k ∧ Hid (Below w1.heap.size w1 wr) ∧ Hid (∀ j,j < k → nameB (txt Z j) = true)) (fun i _ => Z.length - (intOf i).toNat)
  case atStart => exact ⟨0,Nat.zero_le _,rfl,zh (Below.refl _ _),zh (fun j hj => by omega)⟩
  case round =>
   obtain ⟨k,hk,rfl,HB,HJ⟩:=hrel
   by_cases hlk:k < Z.length
   ·have hlk':(k:Int) < (Z.length:Int):=by omega
    rcases HC.out with h3 | ⟨b,off,rfl,hlt,hcc⟩
    ·rw [h3] at hlk; simp at hlk
    have hx:wr.cell? ⟨b,off + k,none⟩ = some (.string (txt Z k)):=(HB.out.cell (p:=⟨b,off + k,none⟩) hlt).trans (hcc k hlk);have HIk:=zh (HIs.out k hlk);have HGk:=zh (fun q => HG1.out k hlk q)
    have HQ:=zh (fun q:nameB (txt Z k) = true => fun j (hj:j < k + 1) => if e:j = k then (e ▸ q:nameB (txt Z j) = true) else HJ.out j (by omega))
    clear hcc;generalize nameB (txt Z k) = t at *;generalize txt Z k = x at *;go_wp2_with fail;refine (HIk.out _).mono ?_; rintro e w2 ⟨rfl,hb⟩;have HB2:=zh (zqaa HB.out hb);clear hb;cases t with
    | true =>
     have HQ2:=zh (HQ.out rfl);go_wp2_with fail;go_roundw
     case rel => exact ⟨k + 1,by omega,by go_num,HB2,HQ2⟩
     case measure => simp [intOf]; omega
    | false =>
     have HR:=zh (HGk.out rfl);go_wp2_with fail;go_ret;refine ⟨?_,zqaa HB0.out (zqaa HB1.out HB2.out)⟩;rw [HE.out,HR.out]; rfl
   ·have:k = Z.length:=by omega
    subst this;have HGt:=zh (HG0.out HJ.out);have HS2:=zh (HS.out.below HB.out);have HB2:=zh (zqaa HB1.out HB.out);clear HJ HB;go_wp2_with fail;refine (HT.out _ _ HS2.out).mono ?_; rintro e w2 ⟨rfl,hd⟩;have HB3:=zh (zqaa HB2.out hd.below);clear hd
    by_cases ht:0 ≤ tw
    ·go_wp2_with fail;go_ret;refine ⟨?_,zqaa HB0.out HB3.out⟩;rw [HE.out,HGt.out,if_neg (by decide),if_neg (by decide),if_pos ht]; rfl
    ·have HE2:=zh (show checkL S = if sz = false then 2 else if vi = false then 6 else 0 by rw [HE.out,HGt.out,if_neg (by decide),if_neg (by decide),if_neg ht])
     clear HE;have HX2:=zh (HX.out.below HB3.out);have HD2:=zh (HD.out.below (zqaa HB0.out HB3.out));have HV2:=zh (HVs.out.below (zqaa HB0.out HB3.out));clear HC HIs HT HG0 HG1 HS HS2 HN HX HD HVs HH HB2 hlk hk h1 h2;obtain ⟨x0,x1,x2,x3⟩:=HX2.out.reads;have hD:=HD2.out;obtain ⟨a',cap',e',h1,h2,h3⟩:=hD;injection e' with e1 e2 e3;subst e1 e3;have HC:=zh h3;clear h3 e2;go_wp2_with fail;go_loopw [5,6] (fun pv i wr => ∃ k:Nat,k ≤ S.ds.length ∧ i = .int .i64 k ∧ w2 = wr ∧ (∃ p:Int,pv = .int .i64 p ∧ 1 ≤ p ∧ p ≤ 1099511627776 ∧ Hid (p = prodL (S.ds.take k))) ∧ Hid (∀ j,j < k → sizAt S.ds j = true)) (fun _ i _ => S.ds.length - (intOf i).toNat)
     case atStart => exact ⟨0,Nat.zero_le _,rfl,rfl,⟨1,rfl,by decide,by decide,zh rfl⟩,zh (fun j hj => by omega)⟩
     case round =>
      obtain ⟨k,hk,rfl,rfl,⟨p,rfl,hp0,hp1,HPe⟩,HJ⟩:=hrel
      by_cases hlk:k < S.ds.length
      ·have hlk':(k:Int) < (S.ds.length:Int):=by omega
       rcases HC.out with h3 | ⟨b,off,rfl,hlt,hcc⟩
       ·rw [h3] at hlk; simp at hlk
       obtain ⟨c0,c1⟩:=hcc k hlk;have HHk:=zh (fun q => HZ1.out k hlk q)
       have HQ:=zh (fun q:sizAt S.ds k = true => fun j (hj:j < k + 1) => if e:j = k then (e ▸ q:sizAt S.ds j = true) else HJ.out j (by omega))
       have HSk:=zh (show sizAt S.ds k = (decide (1 ≤ dz S.ds k) && decide (dz S.ds k ≤ 4096) && decide (p * dz S.ds k ≤ 1099511627776)) by unfold sizAt; rw [HP.out k hlk,← HPe.out])
       have HE1:=zh (show p * dz S.ds k = prodL (S.ds.take (k + 1)) by rw [HP.out k hlk,← HPe.out])
       have hW:=HWz.out k hlk;clear c0 hcc;generalize dz S.ds k = z at *;generalize sizAt S.ds k = t at *
       by_cases z1:z < 1
       ·have HR:=zh (HHk.out (by rw [HSk.out,decide_eq_false (p:=1 ≤ z) (by omega)]; rfl))
        clear hW;go_wp2_with fail;go_ret;refine ⟨?_,zqaa HB0.out HB3.out⟩;rw [HE2.out,HR.out]; rfl
       ·by_cases z2:4096 < z
        ·have HR:=zh (HHk.out (by rw [HSk.out,decide_eq_false (p:=z ≤ 4096) (by omega)]; simp))
         clear hW;go_wp2_with fail;go_ret;refine ⟨?_,zqaa HB0.out HB3.out⟩;rw [HE2.out,HR.out]; rfl
        ·have hq:=zqex hp0 hp1 (by omega:1 ≤ z) (by omega)
         have i2:IntKind.i64.wrap (p * z) = p * z:=IntWalk.i64_in _ (by omega)
         by_cases z3:1099511627776 < p * z
         ·have HR:=zh (HHk.out (by rw [HSk.out,decide_eq_false (p:=p * z ≤ 1099511627776) (by omega)]; simp))
          clear hW;go_wp2_with fail;go_ret;refine ⟨?_,zqaa HB0.out HB3.out⟩;rw [HE2.out,HR.out]; rfl
         ·have HQ2:=zh (HQ.out (by rw [HSk.out]; simp; omega))
          clear hW;go_wp2_with fail;go_roundw
          case rel => exact ⟨k + 1,by omega,by go_num,by trivial,⟨p * z,rfl,by omega,by omega,HE1⟩,HQ2⟩
          case measure => simp [intOf]; omega
      ·have:k = S.ds.length:=by omega
       have HR:=zh (HZ0.out (by rw [← this]; exact HJ.out))
       have hlk':¬ (k:Int) < (S.ds.length:Int):=by omega
       have HE3:=zh (show checkL S = if vi = false then 6 else 0 by rw [HE2.out,HR.out]; rfl)
       clear this HJ HE2 HZ0 HZ1 HP HWz HC HPe;go_wp2_with fail;refine (HTw.out _).mono ?_; rintro e w3 ⟨rfl,rfl⟩;have hV:=HV2.out;obtain ⟨a',cap',e',h4,h3⟩:=hV;injection e' with e1 e2 e3;subst e1 e3;have HC:=zh h3;clear h3 e2 hlk hlk' hk;go_wp2_with fail;go_loopw [9] (fun i wr => ∃ k:Nat,k ≤ S.vs.length ∧ i = .int .i64 k ∧ Hid (Below w2.heap.size w2 wr) ∧ Hid (∀ j,j < k → vieAt fu S.vs j = true)) (fun i _ => S.vs.length - (intOf i).toNat)
       case atStart => exact ⟨0,Nat.zero_le _,rfl,zh (Below.refl _ _),zh (fun j hj => by omega)⟩
       case round =>
        obtain ⟨k,hk,rfl,HB,HJ⟩:=hrel;obtain ⟨y0,y1,y2,y3⟩:=(HX2.out.below HB.out).reads;clear x0 x1 x2 x3
        by_cases hlk:k < S.vs.length
        ·have hlk':(k:Int) < (S.vs.length:Int):=by omega
         rcases HC.out with h3 | ⟨b,off,rfl,hlt,hcc⟩
         ·rw [h3] at hlk; simp at hlk
         have hx:wr.cell? ⟨b,off + k,none⟩ = some (.int .u32 (S.vs.getD k 0)):=(HB.out.cell (p:=⟨b,off + k,none⟩) hlt).trans (hcc k hlk);have hW:=HWv.out k hlk;have HSk:=zh (fun w => HSu.out w _ hW.1 hW.2)
         have HHk:=zh (fun q => HV1.out k hlk q)
         have HQ:=zh (fun q:vieAt fu S.vs k = true => fun j (hj:j < k + 1) => if e:j = k then (e ▸ q:vieAt fu S.vs j = true) else HJ.out j (by omega))
         have HVk:=zh (HVd.out k);have HB5:=zh (fun n => below_drewN (zqaa HB0.out (zqaa HB3.out HB.out)) n)
         have HB6:=zh (fun n => below_drewN HB.out n)
         generalize vieAt fu S.vs k = t at *
         by_cases z1:fu < S.vs.getD k 0
         ·have HR:=zh (HHk.out (by rw [HVk.out,decide_eq_false (p:=S.vs.getD k 0 < fu) (by omega)]; rfl))
          rw [decide_eq_false (p:=S.vs.getD k 0 < fu + 1) (by omega)] at HSk
          clear HVk HQ;generalize S.vs.getD k 0 = x at *;clear hcc hW;go_upto_region 25 with fail;go_quiet ((go_at_call 34; exact Calls.quiet_of (HSk.out _)));go_wp2_with fail;go_ret;refine ⟨?_,HB5.out nq⟩;rw [HE3.out,HR.out]; rfl
         ·rw [decide_eq_true (p:=S.vs.getD k 0 < fu + 1) (by omega)] at HSk
          by_cases z2:S.vs.getD k 0 = fu
          ·have HR:=zh (HHk.out (by rw [HVk.out,decide_eq_false (p:=S.vs.getD k 0 < fu) (by omega)]; rfl))
           clear HVk HQ z1;rw [z2] at hx HSk;clear hcc hW z2;go_upto_region 25 with fail;go_quiet ((go_at_call 34; exact Calls.quiet_of (HSk.out _)));go_wp2_with fail;go_ret;refine ⟨?_,HB5.out nq⟩;rw [HE3.out,HR.out]; rfl
          ·have z4:(S.vs.getD k 0 == fu) = false:=beq_eq_false_iff_ne.2 z2
           by_cases k0:k = 0
           ·subst k0;have HQ2:=zh (HQ.out (by rw [HVk.out,decide_eq_true (p:=S.vs.getD 0 0 < fu) (by omega)]; rfl))
            have hx:wr.cell? ⟨b,off,none⟩ = some (.int .u32 (S.vs.getD 0 0)):=hx;clear HVk HQ HHk;generalize S.vs.getD 0 0 = x at *;clear hcc hW;go_upto_region 25 with fail;go_quiet ((go_at_call 34; exact Calls.quiet_of (HSk.out _)));go_wp2_with fail;go_roundw
            case rel => exact ⟨0 + 1,by omega,by go_num,zh (HB6.out nq),HQ2⟩
            case measure => simp [intOf]; omega
           ·have hy:wr.cell? ⟨b,off + (k - 1),none⟩ = some (.int .u32 (S.vs.getD (k - 1) 0)):=(HB.out.cell (p:=⟨b,off + (k - 1),none⟩) hlt).trans (hcc (k - 1) (by omega))
            have i1:((k:Int) - 1) = ((k - 1:Nat):Int):=by omega
            have i2:decide ((0:Int) < (k:Int)) = true:=decide_eq_true (by omega)
            have i4:(0 < k) = True:=eq_true (by omega)
            have i3:IntKind.i64.wrap ((k:Int) - 1) = ((k - 1:Nat):Int):=by rw [IntWalk.i64_in _ (by omega)]; omega
            by_cases z3:S.vs.getD k 0 ≤ S.vs.getD (k - 1) 0
            ·have HR:=zh (HHk.out (by rw [HVk.out,decide_eq_false k0,decide_eq_false (p:=S.vs.getD (k - 1) 0 < S.vs.getD k 0) (by omega)]; simp))
             clear HVk HQ;generalize S.vs.getD k 0 = x at *;generalize S.vs.getD (k - 1) 0 = y at *;clear hcc hW;go_upto_region 25 with fail;go_quiet ((go_at_call 34; exact Calls.quiet_of (HSk.out _)));go_wp2_with fail;go_ret;refine ⟨?_,HB5.out nq⟩;rw [HE3.out,HR.out]; rfl
            ·have HQ2:=zh (HQ.out (by rw [HVk.out,decide_eq_true (p:=S.vs.getD k 0 < fu) (by omega),decide_eq_true (p:=S.vs.getD (k - 1) 0 < S.vs.getD k 0) (by omega)]; simp))
             clear HVk HQ HHk;generalize S.vs.getD k 0 = x at *;generalize S.vs.getD (k - 1) 0 = y at *;clear hcc hW;go_upto_region 25 with fail;go_quiet ((go_at_call 34; exact Calls.quiet_of (HSk.out _)));go_wp2_with fail;go_roundw
             case rel => exact ⟨k + 1,by omega,by go_num,zh (HB6.out nq),HQ2⟩
             case measure => simp [intOf]; omega
        ·have hke:k = S.vs.length:=by omega
         have HR:=zh (HV0.out (by rw [← hke]; exact HJ.out))
         have hlk':¬ (k:Int) < (S.vs.length:Int):=by omega
         have HB5:=zh (zqaa HB0.out (zqaa HB3.out HB.out));go_wp2_with fail;go_ret;refine ⟨?_,HB5.out⟩;rw [HE3.out,HR.out]; rfl
 ·have hc2:cntB S = false:=by simpa using hc
  rw [zqcf] at hc;rw [hc2] at HE;clear h hw;go_enter Tryz.func33,Tryz.ntmps33;go_wp2
  all_goals first
   | (exfalso; omega)
   | (go_ret; refine ⟨?_,HB0.out⟩; rw [HE.out]; rfl)
end Go.Proofs.YtafmghloohhaeaaGreatDoor
namespace Go.Proofs.YtafmghloohhaeaaGreatDoor
set_option maxRecDepth 100000
open Go.RowKit
set_option linter.unusedVariables false
theorem zqf5 {t:List Int} (h:Bt t):∀ n,n ≤ t.length → bigN (fillN t 0 n).toNat n = t.take n
 | 0,_ => rfl
 | n + 1,hl => by
  cases t with
  | nil => simp at hl
  | cons c t =>
   have hc:=h.head;have hf:=zqao h.tail (f:=0) (by decide) (by decide) n
   have hl':n ≤ t.length:=by simpa using hl
   have e:fillN (c :: t) 0 (n + 1) = c * 256 ^ n + fillN t 0 n:=by
    rw [zqbx]; rfl
   have hp:((256 ^ n:Nat):Int) = 256 ^ n:=by rw [Int.natCast_pow]; rfl
   obtain ⟨F,hF⟩:∃ F:Nat,fillN t 0 n = F:=⟨(fillN t 0 n).toNat,by omega⟩
   obtain ⟨C,rfl⟩:∃ C:Nat,c = C:=⟨c.toNat,by omega⟩
   have hFl:F < 256 ^ n:=by rw [hF,← hp] at hf; omega
   have e2:(fillN ((C:Int) :: t) 0 (n + 1)).toNat = C * 256 ^ n + F:=by
    rw [e,hF,← hp,← Int.natCast_mul,← Int.natCast_add]; rfl
   have ih:=zqf5 h.tail n hl';rw [hF] at ih;have e3:(C * 256 ^ n + F) / 256 ^ n % 256 = C:=by
    rw [Nat.mul_comm,Nat.mul_add_div (zqbo n),Nat.div_eq_of_lt hFl,Nat.add_zero];exact Nat.mod_eq_of_lt (by omega)
   have e4:bigN (C * 256 ^ n + F) n = bigN F n:=by
    rw [← zqhx _ n n (Nat.le_refl _),Nat.mul_comm,Nat.mul_add_mod,Nat.mod_eq_of_lt hFl]
   rw [e2,bigN,e3,e4,List.take_succ_cons,← ih]
   rfl
theorem zqwx {b:List Int} (hb:Bt b) (h:(getU b).2.2 = 0):b.take (getU b).2.1 = encU (getU b).1.toNat:=by
 cases b with
 | nil => simp [getU] at h
 | cons c t =>
  rw [zqds] at h ⊢
  split at h
  ·simp at h
  ·rename_i h1
   split at h
   ·simp at h
   ·rename_i h2;rw [if_neg h1,if_neg h2];have hc:=hb.head;obtain ⟨n,rfl⟩:∃ n:Nat,c = n:=⟨c.toNat,by omega⟩
    simp only [Int.toNat_natCast] at h2 ⊢;have h8:n ≤ 8:=by omega
    have hl:n ≤ t.length:=by omega
    have hr:=zqao hb.tail (f:=0) (by decide) (by decide) n
    have hp:((256 ^ n:Nat):Int) = 256 ^ n:=by rw [Int.natCast_pow]; rfl
    have hle:256 ^ n ≤ 256 ^ 8:=Nat.pow_le_pow_right (by decide) h8
    have h88:(256:Nat) ^ 8 = 18446744073709551616:=by decide
    obtain ⟨X,hX⟩:∃ X:Nat,fillN t 0 n = X:=⟨(fillN t 0 n).toNat,by omega⟩
    have hXl:X < 256 ^ n:=by rw [hX,← hp] at hr; omega
    have hlow:n = 0 ∨ 256 ^ (n - 1) ≤ X:=by
     by_cases h0:n = 0
     ·exact .inl h0
     ·right;obtain ⟨k,rfl⟩:∃ k,n = k + 1:=⟨n - 1,by omega⟩
      cases t with
      | nil => simp at hl
      | cons d t2 =>
       have hd:=hb.tail.head;have hne:d ≠ 0:=by
        intro e;subst e;exact h1 (.inr ⟨by omega,by simp⟩)
       rw [zqbx] at hX;have hr2:=zqao hb.tail.tail (f:=0) (by decide) (by decide) k
       simp only [List.tail_cons,List.getD_cons_zero] at hX hr2;have hpk:((256 ^ k:Nat):Int) = 256 ^ k:=by rw [Int.natCast_pow]; rfl
       have hk0:=zqbo k;have hm:=Int.mul_le_mul_of_nonneg_right (show (1:Int) ≤ d by omega) (show (0:Int) ≤ 256 ^ k by rw [← hpk]; omega)
       rw [Int.one_mul] at hm;show 256 ^ k ≤ X
       rw [← hpk] at hm hX;omega
    have hbn:bytesN X = n:=(zqb2 X (by omega)).unique ⟨hXl,hlow⟩
    have hbf:=zqf5 hb.tail n hl;rw [hX] at hbf;rw [hX];simp only [Int.toNat_natCast] at hbf ⊢;unfold encU;rw [hbn,List.take_succ_cons,hbf]
set_option maxRecDepth 100000
open Go.RowKit
set_option linter.unusedVariables false
theorem zqbc {b X rest:List Int} {p:Nat} (hd:b.drop p = X ++ rest):b.drop (p + X.length) = rest:=by
 rw [← List.drop_drop,hd,List.drop_left]
theorem zqkd {b rest:List Int} {p x:Nat} {most:Int} (hd:b.drop p = encU x ++ rest) (hx:x < 18446744073709551616) (hm:(x:Int) ≤ most):stU b most (p,0) = ((x:Int),p + (encU x).length,0):=by
 unfold stU;rw [if_pos rfl];simp only;rw [hd,zqmi hx];have e:uN most ((x:Int),(encU x).length,0) = ((x:Int),(encU x).length,0):=by
  unfold uN; rw [if_neg (fun h => absurd h.2 (Int.not_lt.2 hm))]
 rw [e];simp
theorem zqfq {S:Sc} (h:checkL S = 0):cntB S = true ∧ sizB S.ds = true:=by
 unfold checkL at h
 split at h
 ·cases h
 ·rename_i h1
  split at h
  ·cases h
  ·split at h
   ·cases h
   ·split at h
    ·cases h
    ·rename_i h2;exact ⟨by simpa using h1,by simpa using h2⟩
set_option maxRecDepth 100000
open Go.RowKit
set_option linter.unusedVariables false
theorem zqai {w w':World} {B E sz n:Nat} {v:Value} {xs:List Value} (h:w.ownsRow B E sz v n xs) (hb:Below w.heap.size w w'):w'.ownsRow B E sz v n xs:=by
 refine h.kept (row:=none) ⟨hb.os,hb.tape,hb.output,hb.size,fun k hk _ => hb.block k hk⟩ ?_
 cases v.ownBlock with
 | none => exact .inl rfl
 | some g => exact .inr (by simp)
set_option maxRecDepth 100000
open Go.RowKit
set_option linter.unusedVariables false
end Go.Proofs.YtafmghloohhaeaaGreatDoor
namespace Go.Proofs.YtafmghloohhaeaaGreatDoor
set_option maxRecDepth 100000
open Go.RowKit
set_option linter.unusedVariables false
theorem zqmn {W:World} {x y:Int} {T:TypeId} {N:Nat} (hN:W.heap.size = N):Ints .u32 (W.alloc (.cells #[.int .u32 x,.int .u32 y] T)) (.slice (some ⟨N,0,none⟩) 2 2) [x,y]:=by
 subst hN;refine ⟨_,_,rfl,Nat.le_refl _,.inr ⟨W.heap.size,0,rfl,by simp,fun i hi => ?_⟩⟩
 have h2:i < 2:=hi;rcases (by omega:i = 0 ∨ i = 1) with rfl | rfl
 ·simp [go_sem]
 ·simp [go_sem]
set_option maxRecDepth 100000
open Go.RowKit Go.ChangeShapes Go.WideShapes Go.Deep
set_option linter.unusedVariables false
theorem zqkr:Tryz.prog.cellsOf 50 = 2 ∧ Tryz.prog.cellsOf 9 = 1 ∧ Tryz.prog.cellsOf 3 = 1:=by
 refine ⟨?_,?_,?_⟩ <;> kernel_rfl
theorem zqyf {H:Type} {enc:TypeId × Value → H} {w:World} {base:Nat} {spare:Nat → Bool} {held:Bool} {fuel:Nat} {cs:List Value} {x:DataW H × List MemPlace}
  (h:DataW.trod enc Tryz.prog w base spare held fuel 50 cs = some x) :
  ∃ (s:ByteArray) (n:Int),cs = [.string s,.int .i64 n] ∧ s.size ≤ maxLen ∧ -9223372036854775808 ≤ n ∧ n ≤ 9223372036854775807:=by
 obtain ⟨xs,n,-,hx,hlen,hxl,hf⟩:=DataW.trod_struct Tryz.underlying50 h;rw [zqkr.1] at hlen
 match cs,hlen with
 | [c0,c1],_ =>
  match xs,hxl with
  | [y0,y1],_ =>
   have h0:=hf 0 _ rfl;have h1:=hf 1 _ rfl;simp only [List.getElem?_cons_succ] at h0 h1;obtain ⟨s,e0,-,w0⟩:=DataW.trod_string Tryz.underlying9 h0;obtain ⟨m,e1,-,w1⟩:=DataW.trod_int Tryz.underlying3 h1;cases e0; cases e1
   simp [Lit.wf,IntKind.min,IntKind.max,IntKind.signed,IntKind.bits] at w1;exact ⟨s,m,rfl,w0,by omega,by omega⟩
theorem zqzh {H:Type} {enc:TypeId × Value → H} {w:World} {base:Nat} {spare:Nat → Bool} {held:Bool} {fuel:Nat} {v:Value} {x:DataW H × List MemPlace}
  (h:DataW.trod enc Tryz.prog w base spare held fuel 22 [v] = some x) :
  ∃ ds,Dims w v ds ∧ ∀ d ∈ ds,d.1.size ≤ maxLen ∧ -9223372036854775808 ≤ d.2 ∧ d.2 ≤ 9223372036854775807:=by
 rcases open_slice Tryz.underlying22 h with ⟨hv,-⟩ | ⟨a,len,cap,m,nn,Dx,Pl,hv,-,hl,hcm,hmm,-,hi⟩
 ·obtain rfl:v = .slice none 0 0:=by simpa using hv
  exact ⟨[],⟨none,0,rfl,by simp,by simp,.inl rfl⟩,fun _ h => by cases h⟩
 ·obtain rfl:v = .slice (some a) len cap:=by simpa using hv
  have hlm:len ≤ m:=by rw [hmm]; split <;> omega
  have hq:∀ k,∃ q:ByteArray × Int,k < len → (∀ j,j < 2 → w.cell? ((a.add (k * 2)).add j) = [Value.string q.1,.int .i64 q.2][j]?) ∧ q.1.size ≤ maxLen ∧ -9223372036854775808 ≤ q.2 ∧ q.2 ≤ 9223372036854775807:=by
   intro k
   by_cases hk:k < len
   ·obtain ⟨cs',hc,ht⟩:=hi k (by omega)
    obtain ⟨s,n,rfl,hwf⟩:=zqyf ht;rw [zqkr.1] at hc;obtain ⟨-,-,hat⟩:=World.cells?_some hc;exact ⟨(s,n),fun _ => ⟨hat,hwf⟩⟩
   ·exact ⟨(ByteArray.empty,0),fun h => absurd h hk⟩
  obtain ⟨q,hq⟩:=Classical.axiomOfChoice hq;have hle:((List.range len).map q).length = len:=by simp
  have hget:∀ k,k < len → ((List.range len).map q).getD k (ByteArray.empty,0) = q k:=fun k hk => by simp [List.getD,hk]
  refine ⟨(List.range len).map q,⟨some a,cap,by rw [hle],by rw [hle]; exact hl,by rw [hle]; unfold maxLen at hcm; omega,?_⟩,fun d hd => ?_⟩
  ·by_cases h0:len = 0
   ·exact .inl (by subst h0; rfl)
   ·refine .inr ?_;obtain ⟨b,off,spot⟩:=a;have hc:=(hq 0 (by omega)).1 0 (by omega)
    have hspot:spot = none:=by simpa [Addr.add] using World.cell?_spot hc
    subst hspot;refine ⟨b,off,rfl,World.block_lt_of_cell? w _ hc,fun k hk => ?_⟩
    rw [hle] at hk;have hh:=(hq k hk).1;have ha:(⟨b,off,none⟩:Addr).add (k * 2) = ⟨b,off + k * 2,none⟩:=by
     by_cases k0:k = 0
     ·subst k0; simp [Addr.add]
     ·have k6:¬ k * 2 = 0:=by omega
      simp only [Addr.add,if_neg k6]
    rw [ha] at hh;have h0:=hh 0 (by omega)
    have h1:=hh 1 (by omega)
    simp only [Addr.add,if_true,Nat.one_ne_zero,if_false] at h0 h1;unfold dn dz;rw [hget k hk];exact ⟨h0,h1⟩
  ·obtain ⟨k,hk,rfl⟩:=List.mem_map.1 hd;exact (hq k (by simpa using hk)).2
theorem zq0j {H:Type} {enc:TypeId × Value → H} {w:World} {base:Nat} {spare:Nat → Bool} {held:Bool} {fuel:Nat} {v:Value} {x:DataW H × List MemPlace}
  (h:DataW.trod enc Tryz.prog w base spare held fuel 24 [v] = some x) :
  ∃ vs,Ints .u32 w v vs ∧ ∀ d ∈ vs,0 ≤ d ∧ d ≤ 4294967295:=by
 rcases open_ints Tryz.underlying24 Tryz.underlying27 (by kernel_rfl) h with ⟨hcs,_⟩ | ⟨x,l,c,zs,hcs,_,hl,hm,hz,_,hcell,hwz⟩
 ·obtain rfl:v = .slice none 0 0:=by simpa using hcs
  exact ⟨[],⟨none,0,rfl,by simp,.inl rfl⟩,fun _ h => by cases h⟩
 ·obtain rfl:v = .slice (some x) l c:=by simpa using hcs
  have hlz:l ≤ zs.length:=by rw [hz]; split <;> omega
  have ht:(zs.take l).length = l:=by rw [List.length_take]; omega
  refine ⟨zs.take l,⟨some x,c,by rw [ht],by omega,?_⟩,fun n hn => ?_⟩
  ·by_cases h0:l = 0
   ·subst h0; exact .inl (by simp)
   ·refine .inr ?_;obtain ⟨b,off,spot⟩:=x;have hc:=hcell 0 (by omega)
    have hspot:spot = none:=by simpa [Addr.add] using World.cell?_spot hc
    subst hspot;refine ⟨b,off,rfl,World.block_lt_of_cell? w _ hc,fun i hi => ?_⟩
    rw [ht] at hi;have e:(zs.take l).getD i 0 = zs.getD i 0:=by simp [List.getD,hi]
    rw [e];have hh:=hcell i (by omega)
    by_cases h0:i = 0
    ·subst h0; simpa [Addr.add] using hh
    ·simpa [Addr.add,h0] using hh
  ·have:=hwz n (List.mem_of_mem_take hn);simp [Lit.wf,IntKind.min,IntKind.max,IntKind.signed,IntKind.bits] at this;omega
theorem zqnb {H:Type} {enc:TypeId × Value → H} {w:World} {base:Nat} {spare:Nat → Bool} {held:Bool} {fuel:Nat} {v:Value} {x:DataW H × List MemPlace}
  (h:DataW.trod enc Tryz.prog w base spare held fuel 23 [v] = some x) :
  ∃ l,Strs w v l ∧ ∀ s ∈ l,s.size ≤ maxLen:=by
 rcases open_strings Tryz.underlying23 Tryz.underlying9 (by kernel_rfl) h with ⟨hcs,_⟩ | ⟨x,l,c,zs,hcs,_,hl,hm,hz,_,hcell,hwz⟩
 ·obtain rfl:v = .slice none 0 0:=by simpa using hcs
  exact ⟨[],zqqd⟩
 ·obtain rfl:v = .slice (some x) l c:=by simpa using hcs
  have hlz:l ≤ zs.length:=by rw [hz]; split <;> omega
  have ht:(zs.take l).length = l:=by rw [List.length_take]; omega
  refine ⟨zs.take l,⟨some x,c,by rw [ht],by omega,by rw [ht]; unfold maxLen at hm; omega,?_⟩,fun n hn => hwz n (List.mem_of_mem_take hn)⟩
  by_cases h0:l = 0
  ·subst h0; exact .inl (by simp)
  ·refine .inr ?_;obtain ⟨b,off,spot⟩:=x;have hc:=hcell 0 (by omega)
   have hspot:spot = none:=by simpa [Addr.add] using World.cell?_spot hc
   subst hspot;refine ⟨b,off,rfl,World.block_lt_of_cell? w _ hc,fun i hi => ?_⟩
   rw [ht] at hi;have e:txt (zs.take l) i = zs.getD i ByteArray.empty:=by simp [txt,List.getD,hi]
   rw [e];have hh:=hcell i (by omega)
   by_cases h0:i = 0
   ·subst h0; simpa [Addr.add] using hh
   ·simpa [Addr.add,h0] using hh
theorem zqu6 {H:Type} {enc:TypeId × Value → H} {w:World} {base:Nat} {spare:Nat → Bool} {held:Bool} {r:Reach} {b0:Nat} {v:Value} {d:DataW H} {p:List MemPlace}
  (hv:Value.okWide Tryz.prog w r b0 26 v) (h:DataW.Trod enc Tryz.prog w base spare held 26 v d p) :
  ∃ D I N V S,v = SchV D I N V ∧ Sch4 w D I N V S ∧ SWf S:=by
 obtain ⟨u0,u1,u2,u3,y0,y1,y2,y3,m,rfl,-,-,t0,t1,t2,t3⟩:=Go.Joins.open_agg4 Tryz.underlying26 (by kernel_rfl) (by kernel_rfl) hv h
 obtain ⟨ds,k0,w0⟩:=zqzh t0;obtain ⟨is,k1,w1⟩:=zqnb t1;obtain ⟨ns,k2,w2⟩:=zqnb t2;obtain ⟨vs,k3,w3⟩:=zq0j t3;exact ⟨u0,u1,u2,u3,⟨ds,is,ns,vs⟩,rfl,⟨k0,k1,k2,k3⟩,⟨w0,w1,w2,w3⟩⟩
end Go.Proofs.YtafmghloohhaeaaGreatDoor
