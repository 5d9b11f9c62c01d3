/- Contracts that the law leans on: Agoi Agod Facs Facx Agog. -/
import Derived.Deep.RegionLaw
import Derived.BigQuiet
import Derived.Deep.QuietTactic
import Derived.Test.YtafmghloohhaeaaGreatDoorPt02
import Derived.Test.YtafmghloohhaeaaGreatDoorPt10
import Derived.Test.YtafmghloohhaeaaGreatDoorPt13
import Derived.Test.YtafmghloohhaeaaGreatDoorPt17
import Derived.Test.YtafmghloohhaeaaGreatDoorPt23
import Derived.Test.YtafmghloohhaeaaGreatDoorPt24
import Derived.Test.YtafmghloohhaeaaGreatDoorPt25
import Derived.Test.YtafmghloohhaeaaGreatDoorPt26
import Derived.Test.YtafmghloohhaeaaGreatDoorPt27
namespace Go.Proofs.YtafmghloohhaeaaGreatDoor
set_option maxRecDepth 100000
open Go.RowKit
set_option linter.unusedVariables false
set_option maxHeartbeats 16000000 in
theorem zqrg (w:World) (P Q:Value) (c:Ce) (h:CeM w P Q c) (hc:CeW c) (hl:lightC c = true) :
  Calls Tryz.prog 8 #[CeV c P Q] w (BytesP w (encC c)):=by
 obtain ⟨i0,hi,hz0,hz1,hz2⟩:=info_parts Tryz.infoU8;obtain ⟨m1,m2,m3,m4⟩:=zqdv.1 hl;have HI:=zh h.i;have HN:=zh h.n;have HWc:=zh hc;have HM:=zh (And.intro m1 (And.intro m2 (And.intro m3 m4)));have hk0:=hc.key;have hk1:=hc.cnt;have HU0:=zh (fun w => zqgu c.key.toNat w (by omega))
 have ek:((c.key.toNat:Nat):Int) = c.key:=by omega
 rw [ek] at HU0;have HI0:=zh (fun w => zqgt c.cnt w hk1.1 hk1.2)
 have l0:=(zqa3 (x:=c.key.toNat) (by omega)).2
 have l1:=(zqaz hk1.1 hk1.2).2;have HLw:=zh (fun k => zqb3 (e:=encWh) (n:=225) (l:=c.is) (fun x hx => by
  obtain ⟨i,hi,rfl⟩:=List.getElem_of_mem hx;exact zqh2 (hc.is _ hx) (by have:=m3 i hi; rwa [zqa5 hi] at this)) k)
 have HLr:=zh (fun k => zqb3 (e:=encRe) (n:=325) (l:=c.ns) (fun x hx => by
  obtain ⟨i,hi,rfl⟩:=List.getElem_of_mem hx;exact zqh1 (by have:=m4 i hi; rwa [zqax hi] at this)) k)
 have HEw:=zh (show (c.is.take c.is.length).flatMap encWh = c.is.flatMap encWh by rw [List.take_length])
 have HEr:=zh (show (c.ns.take c.ns.length).flatMap encRe = c.ns.flatMap encRe by rw [List.take_length])
 have HF:=zh (show encC c = encU c.key.toNat ++ encI c.cnt ++ c.is.flatMap encWh ++ c.ns.flatMap encRe from rfl);have HL:=zh (And.intro l0 l1);obtain ⟨⟨p,k1,rfl⟩,p2,k2,rfl⟩:=h.slices;have HB0:=zh (zqab w (CeO c (.slice p c.is.length k1) (.slice p2 c.ns.length k2)));have HX:=zh (zqcp w c (.slice p c.is.length k1) (.slice p2 c.ns.length k2));generalize encC c = FIN at *;generalize encU c.key.toNat = E0 at *;generalize encI c.cnt = E1 at *;clear h hc hl m1 m2 m3 m4 hk0 hk1 ek l0 l1;go_enter Tryz.func8,Tryz.ntmps8;go_upto_region 1 with fail;generalize hW0:w.alloc (CeO c (.slice p c.is.length k1) (.slice p2 c.ns.length k2)) = W0 at *;obtain ⟨x0,x1,x2,x3⟩:=HX.out.reads;have hBw:Below W0.heap.size W0 W0.drew:=(Below.refl _ _).drew;have hk:W0.drew.cell? ⟨w.heap.size,0,none⟩ = some (.int .u64 c.key) ∧ W0.drew.cell? ⟨w.heap.size,1,none⟩ = some (.int .i64 c.cnt):=⟨by simp [x0],by simp [x1]⟩
 have HPL:=zh (show (E0 ++ E1).length ≤ 40000 by have:=HL.out; simp only [List.length_append]; omega)
 clear x0 x1 x2 x3;go_region_held3 (fun w' => w'.cell? ⟨w.heap.size,0,none⟩ = some (.int .u64 c.key) ∧ w'.cell? ⟨w.heap.size,1,none⟩ = some (.int .i64 c.cnt)) (with_reducible exact hk)
  (first
   | (refine zqay _ (by rfl) _ _ _ (by rfl) W0.heap.size 5 i0 (.int .u8 0) 1 Tryz.underlying36 hi hz0 hz1 hz2 (by rfl) .u8 _ _ E0 E1 (by rfl) (by rfl) hO hd2 (by unfold maxLen; have:=HPL.out; simp only [List.length_append] at this ⊢; omega) (by have:=HPL.out; simp only [List.length_append] at this ⊢; omega) hBw.size ?_; intro v' w9 hown hgrow; have hO3:=hown; have hg:=zqas hBw hBw.size hO hgrow; have hk:=hold2 hg (And.intro HX.out.reads.1 HX.out.reads.2.1); have hBw:=hg; obtain ⟨pv',lv',cv',rfl⟩:=zqac hown; clear hown hgrow hg)
   | (go_at_call 24; refine (HI0.out _).mono ?_; rintro r w2 ⟨⟨d,rfl,ho⟩,hb2⟩; have hd2:=Ints.own ho; have hO:=zqai hO hb2; have hk:=hold2 hb2 hk; have hBw:=zqaa hBw hb2; obtain ⟨da,dl,dc,rfl⟩:=zqac ho; clear ho hb2)
   | (go_at_call 23; refine (HU0.out _).mono ?_; rintro r w2 ⟨⟨d,rfl,ho⟩,hb2⟩; have hO:=zqbu ho hBw.size; have hk:=hold2 hb2 hk; have hBw:=zqaa hBw hb2; obtain ⟨da,dl,dc,rfl⟩:=zqac ho; clear ho hb2))
 have HS0:=zh (And.intro hO3 hBw);obtain ⟨pva,pvl,pvc,hpv⟩:=zqac hO3;clear hk hO hO3 hBw hd2;have hmi:c.is.length ≤ 10:=HM.out.1;have hmn:c.ns.length ≤ 10:=HM.out.2.1;go_wp2_with fail;go_loopw [3,4] (fun lv i wr => ∃ k:Nat,k ≤ c.is.length ∧ i = .int .i64 k ∧ Hid (BOwn wr W0.heap.size lv (E0 ++ E1 ++ (c.is.take k).flatMap encWh) ∧ Below W0.heap.size W0 wr)) (fun _ i _ => c.is.length - (intOf i).toNat)
 case atStart => exact ⟨0,Nat.zero_le _,rfl,zh ⟨(show E0 ++ E1 ++ (c.is.take 0).flatMap encWh = E0 ++ E1 by simp).symm ▸ HS0.out.1,HS0.out.2⟩⟩
 case round =>
  obtain ⟨k,hk,rfl,HS⟩:=hrel;obtain ⟨pa,pl,pc,rfl⟩:=zqac HS.out.1
  by_cases hlk:k < c.is.length
  ·have hlk':(k:Int) < (c.is.length:Int):=by omega
   obtain ⟨b,o,qv,rfl,hq⟩:=HI.out.at hlk;have hle:Hid (k + 1 ≤ c.is.length):=zh (by omega)
   obtain ⟨f0,f1,f2,f3,f4,-⟩:=hq.below (zqaa HB0.out HS.out.2);have hls:(wg c.is k).sq.length ≤ 20:=HM.out.2.2.1 k hlk;have hqs:=hq.s;obtain ⟨pq,cq,rfl,-,-⟩:=hqs;have HQS:=zh (hq.s.below HB0.out);have HWx:=HWc.out.wg hlk;have h64:=HWx.sum; have h65:=HWx.abs; have h66:=HWx.mn; have h67:=HWx.mx; have h68:Wd (wg c.is k).sq:=HWx.wd;have HT1:=zh (fun w => zqgt (wg c.is k).sum w h64.1 h64.2)
   have HT2:=zh (fun w => zqgt (wg c.is k).abs w h65.1 h65.2)
   have HT3:=zh (fun w => zqgt (wg c.is k).mn w h66.1 h66.2)
   have HT4:=zh (fun w => zqgt (wg c.is k).mx w h67.1 h67.2)
   have HTl:=zh (fun w => zqgu (wg c.is k).sq.length w (by omega))
   have HTw:=zh (fun j (hj:j < (wg c.is k).sq.length) => And.intro (h68.getD j) (fun w => zqgu ((wg c.is k).sq.getD j 0).toNat w (by have:=h68.getD j; omega)))
   have HY:=zh (And.intro (zqaz h64.1 h64.2).2 (And.intro (zqaz h65.1 h65.2).2 (And.intro (zqaz h66.1 h66.2).2 (And.intro (zqaz h67.1 h67.2).2 (zqa3 (x:=(wg c.is k).sq.length) (by omega)).2))))
   have HLq:=zh (fun j => zqb3 (e:=eU) (n:=9) (l:=(wg c.is k).sq) (zqjy h68) j)
   have HNq:=zh (fun j (hj:j < (wg c.is k).sq.length) => zqp7 (e:=eU) (d:=0) hj)
   have HEq:=zh (show ((wg c.is k).sq.take (wg c.is k).sq.length).flatMap eU = (wg c.is k).sq.flatMap eU by rw [List.take_length])
   have HNk:=zh (zqpi hlk);have HLk:=zh (HLw.out k);have HEW:=zh (show encWh (wg c.is k) = encI (wg c.is k).sum ++ encI (wg c.is k).abs ++ encU (wg c.is k).sq.length ++ (wg c.is k).sq.flatMap eU ++ encI (wg c.is k).mn ++ encI (wg c.is k).mx from rfl);have iz:IntKind.u64.wrap ((wg c.is k).sq.length:Int) = ((wg c.is k).sq.length:Int):=by rw [IntKind.wrap_u64]; omega
   obtain ⟨QQ,hQQ⟩:∃ QQ,E0 ++ E1 ++ (c.is.take k).flatMap encWh = QQ:=⟨_,rfl⟩
   have HPL0:=zh (show QQ.length ≤ 3000 by have:=HL.out; have:=HLk.out; rw [← hQQ]; simp only [List.length_append]; omega)
   have HQQ:=zh hQQ;rw [hQQ] at HS;clear hQQ;generalize encWh (wg c.is k) = EW at *;generalize encI (wg c.is k).sum = Y1 at *;generalize encI (wg c.is k).abs = Y2 at *;generalize encI (wg c.is k).mn = Y3 at *;generalize encI (wg c.is k).mx = Y4 at *;generalize encU (wg c.is k).sq.length = YL at *;generalize (wg c.is k).sum = y0 at *;generalize (wg c.is k).abs = y1 at *;generalize (wg c.is k).mn = y3 at *;generalize (wg c.is k).mx = y4 at *;generalize (wg c.is k).sq = lx at *;generalize lx.flatMap eU = YQ at *;clear hq HWx h64 h65 h66 h67 h68;have HA:=zh (zqab wr (.cells #[.int .i64 y0,.int .i64 y1,.slice pq lx.length cq,.int .i64 y3,.int .i64 y4] 45));have HX5:=zh (heap_alloc_new wr (.cells #[.int .i64 y0,.int .i64 y1,.slice pq lx.length cq,.int .i64 y3,.int .i64 y4] 45));have hcb:=HX.out.below HS.out.2;obtain ⟨-,-,x2,x3⟩:=hcb.reads;clear hcb;go_upto_region 6 with fail;generalize wr.alloc (.cells #[.int .i64 y0,.int .i64 y1,.slice pq lx.length cq,.int .i64 y3,.int .i64 y4] 45) = W1 at *;have HS1:=zh (And.intro (zqai HS.out.1 HA.out) (zqaa HS.out.2 HA.out));obtain ⟨BK,hBK⟩:∃ BK,wr.heap.size = BK:=⟨_,rfl⟩
   rw [hBK] at HX5 ⊢;clear f0 f1 f2 f3 f4 x2 x3 HS HA hBK;have hOr0:=zqai HS1.out.1 (Below.refl _ _).drew;have hBw:Below W0.heap.size W0 W1.drew:=HS1.out.2.drew;have hx:W1.drew.heap[BK]? = some (.cells #[.int .i64 y0,.int .i64 y1,.slice pq lx.length cq,.int .i64 y3,.int .i64 y4] 45 (0,0)):=HX5.out;have hk:=And.intro (row5 hx).1 (row5 hx).2.1;have HPL:=zh (show (QQ ++ Y1 ++ Y2).length ≤ 40000 by have:=HPL0.out; have:=HY.out; simp only [List.length_append]; omega)
   go_region_held3 (fun w' => w'.cell? ⟨BK,0,none⟩ = some (.int .i64 y0) ∧ w'.cell? ⟨BK,1,none⟩ = some (.int .i64 y1)) (with_reducible exact hk)
    (first
     | (have hx2:=hO2r0; clear hx2; refine zqay _ (by rfl) _ _ _ (by rfl) W0.heap.size 5 i0 (.int .u8 0) 1 Tryz.underlying36 hi hz0 hz1 hz2 (by rfl) .u8 _ _ (QQ ++ Y1) Y2 (by rfl) (by rfl) hO2r0 hd3r0 (by unfold maxLen; have:=HPL.out; simp only [List.length_append] at this ⊢; omega) (by have:=HPL.out; simp only [List.length_append] at this ⊢; omega) hBw.size ?_; intro v' w9 hown hgrow; have hO3r0:=hown; have hx:=zqal hx hO2r0 (by decide) hgrow; have hg:=zqas hBw hBw.size hO2r0 hgrow; have hk:=And.intro (row5 hx).1 (row5 hx).2.1; have hBw:=hg; obtain ⟨pv',lv',cv',rfl⟩:=zqac hown; clear hown hgrow hg)
     | (refine zqay _ (by rfl) _ _ _ (by rfl) W0.heap.size 5 i0 (.int .u8 0) 1 Tryz.underlying36 hi hz0 hz1 hz2 (by rfl) .u8 _ _ QQ Y1 (by rfl) (by rfl) hOr0 hd2r0 (by unfold maxLen; have:=HPL.out; simp only [List.length_append] at this ⊢; omega) (by have:=HPL.out; simp only [List.length_append] at this ⊢; omega) hBw.size ?_; intro v' w9 hown hgrow; have hO2r0:=hown; have hx:=zqal hx hOr0 (by decide) hgrow; have hg:=zqas hBw hBw.size hOr0 hgrow; have hk:=And.intro (row5 hx).1 (row5 hx).2.1; have hBw:=hg; obtain ⟨pv',lv',cv',rfl⟩:=zqac hown; clear hown hgrow hg)
     | (have hx2:=hO2r0; clear hx2; go_at_call 24; refine (HT2.out _).mono ?_; rintro r w2 ⟨⟨d,rfl,ho⟩,hb2⟩; have hd3r0:=Ints.own ho; have hO2r0:=zqai hO2r0 hb2; have hx:=(hb2.block _ (Array.getElem?_eq_some_iff.1 hx).1).trans hx; have hk:=And.intro (row5 hx).1 (row5 hx).2.1; have hBw:=zqaa hBw hb2; obtain ⟨da,dl,dc,rfl⟩:=zqac ho; clear ho hb2)
     | (go_at_call 24; refine (HT1.out _).mono ?_; rintro r w2 ⟨⟨d,rfl,ho⟩,hb2⟩; have hd2r0:=Ints.own ho; have hOr0:=zqai hOr0 hb2; have hx:=(hb2.block _ (Array.getElem?_eq_some_iff.1 hx).1).trans hx; have hk:=And.intro (row5 hx).1 (row5 hx).2.1; have hBw:=zqaa hBw hb2; obtain ⟨da,dl,dc,rfl⟩:=zqac ho; clear ho hb2))
   have HS6:=zh (And.intro hO3r0 hBw);have HX6:=zh hx;obtain ⟨pva,pvl,pvc,hpv⟩:=zqac hO3r0;clear hk hOr0 hO2r0 hO3r0 hBw hd2r0 hd3r0 hx HX5 HS1 HPL;obtain ⟨e0,e1,e2,e3,e4⟩:=row5 HX6.out;go_wp2_with fail;refine (HTl.out _).mono ?_; rintro r w3 ⟨⟨d,rfl,ho⟩,hb⟩;have HA3:=zh (And.intro (zqai HS6.out.1 hb) (zqaa HS6.out.2 hb));have HX7:=zh ((hb.block _ (Array.getElem?_eq_some_iff.1 HX6.out).1).trans HX6.out);have HD3:=zh (Ints.own ho);obtain ⟨da3,dl3,dc3,rfl⟩:=zqac ho;clear ho hb e0 e1 e2 e3 e4;have HPL:=zh (show (QQ ++ Y1 ++ Y2 ++ YL).length ≤ 40000 by have:=HPL0.out; have:=HY.out; simp only [List.length_append]; omega)
   go_wp2_with (at_builtin; refine zqaq _ (by rfl) _ _ 36 rfl W0.heap.size 5 i0 (.int .u8 0) 1 Tryz.underlying36 hi hz0 hz1 hz2 rfl .u8 _ _ (QQ ++ Y1 ++ Y2) YL rfl rfl HA3.out.1 HD3.out (by unfold maxLen; have:=HPL.out; simp only [List.length_append] at this ⊢; omega) (by have:=HPL.out; simp only [List.length_append] at this ⊢; omega) HA3.out.2.size ?_; intro v' w9 hown hgrow; have HQ:=zh (And.intro hown (HA3.out.2.grown hgrow HA3.out.2.size (fun g hg => (HA3.out.1.lt g hg).1))); have HX8:=zh (zqal HX7.out HA3.out.1 (by decide) hgrow); obtain ⟨pv',lv',cv',rfl⟩:=zqac hown; clear hown hgrow)
   go_loopw [3,6] (fun lv i wr => ∃ j:Nat,j ≤ lx.length ∧ i = .int .i64 j ∧ Hid ((BOwn wr W0.heap.size lv (QQ ++ Y1 ++ Y2 ++ YL ++ (lx.take j).flatMap eU) ∧ Below W0.heap.size W0 wr) ∧ wr.heap[BK]? = some (.cells #[.int .i64 y0,.int .i64 y1,.slice pq lx.length cq,.int .i64 y3,.int .i64 y4] 45 (0,0)))) (fun _ i _ => lx.length - (intOf i).toNat)
   case atStart => exact ⟨0,Nat.zero_le _,rfl,zh ⟨⟨(show QQ ++ Y1 ++ Y2 ++ YL ++ (lx.take 0).flatMap eU = QQ ++ Y1 ++ Y2 ++ YL by simp).symm ▸ HQ.out.1,HQ.out.2⟩,HX8.out⟩⟩
   case round =>
    obtain ⟨j,hj,rfl,HR⟩:=hrel;obtain ⟨pa,pl,pc,rfl⟩:=zqac HR.out.1.1;obtain ⟨e0,e1,e2,e3,e4⟩:=row5 HR.out.2
    by_cases hlj:j < lx.length
    ·have hlj':(j:Int) < (lx.length:Int):=by omega
     obtain ⟨cb,coff,rfl,hclt,hcx⟩:=zqth HQS.out hlj;have hcx:=zqdo HR.out.1.2 hcx;have hv0:=(HTw.out j hlj).1;have HT:=zh (HTw.out j hlj).2;have ez:((lx.getD j 0).toNat:Int) = lx.getD j 0:=by omega
     rw [ez] at HT;have iz2:IntKind.u64.wrap (lx.getD j 0) = lx.getD j 0:=by rw [IntKind.wrap_u64]; omega
     have HNj:=zh (HNq.out j hlj);change Hid (∀ w,Calls _ _ _ _ (BytesP w (eU (lx.getD j 0)))) at HT
     have HPL:=zh (show (QQ ++ Y1 ++ Y2 ++ YL ++ (lx.take j).flatMap eU ++ eU (lx.getD j 0)).length ≤ 40000 by have:=HLq.out (j + 1); rw [HNj.out] at this; have:=HPL0.out; have:=HY.out; simp only [List.length_append] at *; omega)
     clear hv0 ez;have hle2:Hid (j + 1 ≤ lx.length):=zh (by omega)
     generalize lx.getD j 0 = x at *;generalize eU x = y at *;generalize (lx.take j).flatMap eU = q at *;go_wp2_with fail;refine (HT.out _).mono ?_; rintro r w2 ⟨⟨d,rfl,ho⟩,hb⟩;have HO2:=zh (And.intro (zqai HR.out.1.1 hb) (zqaa HR.out.1.2 hb));have HXx:=zh ((hb.block _ (Array.getElem?_eq_some_iff.1 HR.out.2).1).trans HR.out.2);have HD2:=zh (Ints.own ho);obtain ⟨da,dl,dc,rfl⟩:=zqac ho;clear ho hb e0 e1 e2 e3 e4 hcx;go_wp2_with (at_builtin; refine zqaq _ (by rfl) _ _ 36 rfl W0.heap.size 5 i0 (.int .u8 0) 1 Tryz.underlying36 hi hz0 hz1 hz2 rfl .u8 _ _ (QQ ++ Y1 ++ Y2 ++ YL ++ q) y rfl rfl HO2.out.1 HD2.out (by unfold maxLen; have:=HPL.out; simp only [List.length_append] at this ⊢; omega) (by have:=HPL.out; simp only [List.length_append] at this ⊢; omega) HO2.out.2.size ?_; intro v' w9 hown hgrow; have HQ:=zh (And.intro hown (HO2.out.2.grown hgrow HO2.out.2.size (fun g hg => (HO2.out.1.lt g hg).1))); have HXy:=zh (zqal HXx.out HO2.out.1 (by decide) hgrow); obtain ⟨pv',lv',cv',rfl⟩:=zqac hown; clear hown hgrow)
     go_roundw
     case rel => exact ⟨j + 1,hle2.out,by go_num,zh ⟨⟨by rw [HNj.out,← List.append_assoc]; exact HQ.out.1,HQ.out.2⟩,HXy.out⟩⟩
     case measure => simp [intOf]; omega
    ·have hje:j = lx.length:=by omega
     subst hje;have HR2:=HR.out;rw [HEq.out] at HR2;have hOr1:=zqai HR2.1.1 (Below.refl _ _).drew;have hBw:Below W0.heap.size W0 wr.drew:=HR2.1.2.drew;have hx:wr.drew.heap[BK]? = some (.cells #[.int .i64 y0,.int .i64 y1,.slice pq lx.length cq,.int .i64 y3,.int .i64 y4] 45 (0,0)):=HR2.2;have HPL:=zh (show (QQ ++ Y1 ++ Y2 ++ YL ++ YQ ++ Y3 ++ Y4).length ≤ 40000 by have:=HLq.out lx.length; rw [HEq.out] at this; have:=HPL0.out; have:=HY.out; simp only [List.length_append] at *; omega)
     have hlk':¬ ((lx.length:Nat):Int) < (lx.length:Nat):=by omega
     clear HR HR2;go_upto_region 12 with fail;clear e0 e1 e2 e3 e4;have hk:=And.intro (row5 hx).2.2.2.1 (row5 hx).2.2.2.2;go_region_held3 (fun w' => w'.cell? ⟨BK,3,none⟩ = some (.int .i64 y3) ∧ w'.cell? ⟨BK,4,none⟩ = some (.int .i64 y4)) (with_reducible exact hk)
      (first
       | (have hx2:=hO2r1; clear hx2; refine zqay _ (by rfl) _ _ _ (by rfl) W0.heap.size 5 i0 (.int .u8 0) 1 Tryz.underlying36 hi hz0 hz1 hz2 (by rfl) .u8 _ _ ((QQ ++ Y1 ++ Y2 ++ YL ++ YQ) ++ Y3) Y4 (by rfl) (by rfl) hO2r1 hd3r1 (by unfold maxLen; have:=HPL.out; simp only [List.length_append] at this ⊢; omega) (by have:=HPL.out; simp only [List.length_append] at this ⊢; omega) hBw.size ?_; intro v' w9 hown hgrow; have hO3r1:=hown; have hx:=zqal hx hO2r1 (by decide) hgrow; have hg:=zqas hBw hBw.size hO2r1 hgrow; have hk:=And.intro (row5 hx).2.2.2.1 (row5 hx).2.2.2.2; have hBw:=hg; obtain ⟨pv',lv',cv',rfl⟩:=zqac hown; clear hown hgrow hg)
       | (refine zqay _ (by rfl) _ _ _ (by rfl) W0.heap.size 5 i0 (.int .u8 0) 1 Tryz.underlying36 hi hz0 hz1 hz2 (by rfl) .u8 _ _ (QQ ++ Y1 ++ Y2 ++ YL ++ YQ) Y3 (by rfl) (by rfl) hOr1 hd2r1 (by unfold maxLen; have:=HPL.out; simp only [List.length_append] at this ⊢; omega) (by have:=HPL.out; simp only [List.length_append] at this ⊢; omega) hBw.size ?_; intro v' w9 hown hgrow; have hO2r1:=hown; have hx:=zqal hx hOr1 (by decide) hgrow; have hg:=zqas hBw hBw.size hOr1 hgrow; have hk:=And.intro (row5 hx).2.2.2.1 (row5 hx).2.2.2.2; have hBw:=hg; obtain ⟨pv',lv',cv',rfl⟩:=zqac hown; clear hown hgrow hg)
       | (have hx2:=hO2r1; clear hx2; go_at_call 24; refine (HT4.out _).mono ?_; rintro r w2 ⟨⟨d,rfl,ho⟩,hb2⟩; have hd3r1:=Ints.own ho; have hO2r1:=zqai hO2r1 hb2; have hx:=(hb2.block _ (Array.getElem?_eq_some_iff.1 hx).1).trans hx; have hk:=And.intro (row5 hx).2.2.2.1 (row5 hx).2.2.2.2; have hBw:=zqaa hBw hb2; obtain ⟨da,dl,dc,rfl⟩:=zqac ho; clear ho hb2)
       | (go_at_call 24; refine (HT3.out _).mono ?_; rintro r w2 ⟨⟨d,rfl,ho⟩,hb2⟩; have hd2r1:=Ints.own ho; have hOr1:=zqai hOr1 hb2; have hx:=(hb2.block _ (Array.getElem?_eq_some_iff.1 hx).1).trans hx; have hk:=And.intro (row5 hx).2.2.2.1 (row5 hx).2.2.2.2; have hBw:=zqaa hBw hb2; obtain ⟨da,dl,dc,rfl⟩:=zqac ho; clear ho hb2))
     have HS9:=zh (And.intro hO3r1 hBw);obtain ⟨pva,pvl,pvc,hpv⟩:=zqac hO3r1;clear hk hOr1 hO2r1 hO3r1 hBw hd2r1 hd3r1 hx HPL;go_wp2_with fail;go_roundw
     case rel => exact ⟨k + 1,hle.out,by go_num,zh ⟨by rw [HNk.out,HEW.out,← List.append_assoc,HQQ.out]; have:=HS9.out.1; simpa only [List.append_assoc] using this,HS9.out.2⟩⟩
     case measure => simp [intOf]; omega
  ·have hke:k = c.is.length:=by omega
   subst hke;have hS2:=HS.out;have hLk:=HLw.out c.is.length;rw [HEw.out] at hS2 hLk;have HS2:=zh hS2;have HLk:=zh hLk;clear hS2 hLk HS;generalize c.is.flatMap encWh = EI at *;have hcb:=HX.out.below HS2.out.2;obtain ⟨x0,x1,x2,x3⟩:=hcb.reads;clear hcb;go_wp2_with fail;clear x0 x1 x2 x3;go_loopw [3,7] (fun lv i wr => ∃ k:Nat,k ≤ c.ns.length ∧ i = .int .i64 k ∧ Hid (BOwn wr W0.heap.size lv (E0 ++ E1 ++ EI ++ (c.ns.take k).flatMap encRe) ∧ Below W0.heap.size W0 wr)) (fun _ i _ => c.ns.length - (intOf i).toNat)
   case atStart => exact ⟨0,Nat.zero_le _,rfl,zh ⟨(show E0 ++ E1 ++ EI ++ (c.ns.take 0).flatMap encRe = E0 ++ E1 ++ EI by simp).symm ▸ HS2.out.1,HS2.out.2⟩⟩
   case round =>
    obtain ⟨k,hk,rfl,HS⟩:=hrel;obtain ⟨pa,pl,pc,rfl⟩:=zqac HS.out.1
    by_cases hlk:k < c.ns.length
    ·have hlk':(k:Int) < (c.ns.length:Int):=by omega
     obtain ⟨b,o,qv,rfl,hq⟩:=HN.out.at hlk;have hle:Hid (k + 1 ≤ c.ns.length):=zh (by omega)
     obtain ⟨f0,f1,f2,-⟩:=hq.below (zqaa HB0.out HS.out.2);have hls:(rg c.ns k).sum.length ≤ 300:=HM.out.2.2.2 k hlk;have hqs:=hq.s;obtain ⟨pq,cq,rfl,-,-⟩:=hqs;have HQS:=zh (hq.s.below HB0.out);have HWx:=HWc.out.rg hlk;have HT1:=zh (fun w => zqum (rg c.ns k).mn w HWx.mn)
     have HT2:=zh (fun w => zqum (rg c.ns k).mx w HWx.mx)
     have HTl:=zh (fun w => zqgu (rg c.ns k).sum.length w (by omega))
     have HY:=zh (And.intro (Nat.le_of_eq (zqge (rg c.ns k).mn)) (And.intro (Nat.le_of_eq (zqge (rg c.ns k).mx)) (zqa3 (x:=(rg c.ns k).sum.length) (by omega)).2))
     have HNk:=zh (zqo6 hlk);have HLk2:=zh (HLr.out k);have HEW:=zh (show encRe (rg c.ns k) = encU (rg c.ns k).sum.length ++ (rg c.ns k).sum ++ eN (rg c.ns k).mn ++ eN (rg c.ns k).mx from rfl);have iz:IntKind.u64.wrap ((rg c.ns k).sum.length:Int) = ((rg c.ns k).sum.length:Int):=by rw [IntKind.wrap_u64]; omega
     obtain ⟨QQ,hQQ⟩:∃ QQ,E0 ++ E1 ++ EI ++ (c.ns.take k).flatMap encRe = QQ:=⟨_,rfl⟩
     have HPL0:=zh (show QQ.length ≤ 9000 by have:=HL.out; have:=HLk.out; have:=HLk2.out; rw [← hQQ]; simp only [List.length_append]; omega)
     have HQQ:=zh hQQ;rw [hQQ] at HS;clear hQQ;generalize encRe (rg c.ns k) = EW at *;generalize encU (rg c.ns k).sum.length = YL at *;generalize eN (rg c.ns k).mn = Y1 at *;generalize eN (rg c.ns k).mx = Y2 at *;generalize (rg c.ns k).mn = y1 at *;generalize (rg c.ns k).mx = y2 at *;generalize (rg c.ns k).sum = lx at *;clear hq HWx;have hsf:=fun (w:World) (a:Addr) (m:Mode) (k:Nat) => zqba (P:=Tryz.prog) (w:=w) (a:=a) (m:=m) k
     have HA:=zh (zqab wr (.cells #[.slice pq lx.length cq,.float .f64 y1,.float .f64 y2] 48));have HX3:=zh (heap_alloc_new wr (.cells #[.slice pq lx.length cq,.float .f64 y1,.float .f64 y2] 48));have hcb:=HX.out.below HS.out.2;obtain ⟨-,-,-,x3⟩:=hcb.reads;clear hcb;go_upto_region 17 with fail;generalize wr.alloc (.cells #[.slice pq lx.length cq,.float .f64 y1,.float .f64 y2] 48) = W1 at *;have HS1:=zh (And.intro (zqai HS.out.1 HA.out) (zqaa HS.out.2 HA.out));obtain ⟨BK,hBK⟩:∃ BK,wr.heap.size = BK:=⟨_,rfl⟩
     rw [hBK] at HX3 ⊢;clear f0 f1 f2 x3 hsf HS HA hBK;have hOr2:=zqai HS1.out.1 (Below.refl _ _).drew;have hBw:Below W0.heap.size W0 W1.drew:=HS1.out.2.drew;have hx:W1.drew.heap[BK]? = some (.cells #[.slice pq lx.length cq,.float .f64 y1,.float .f64 y2] 48 (0,0)):=HX3.out;have hk:=(row3 hx).1;have HPL:=zh (show (QQ ++ YL ++ lx).length ≤ 40000 by have:=HPL0.out; have:=HY.out; simp only [List.length_append]; omega)
     go_region_held3 (fun w' => w'.cell? ⟨BK,0,none⟩ = some (.slice pq lx.length cq)) (with_reducible exact hk)
      (first
       | (have hx2:=hO2r2; clear hx2; refine zqay _ (by rfl) _ _ _ (by rfl) W0.heap.size 5 i0 (.int .u8 0) 1 Tryz.underlying36 hi hz0 hz1 hz2 (by rfl) .u8 _ _ (QQ ++ YL) lx (by rfl) (by rfl) hO2r2 (HQS.out.below hBw) (by unfold maxLen; have:=HPL.out; simp only [List.length_append] at this ⊢; omega) (by have:=HPL.out; simp only [List.length_append] at this ⊢; omega) hBw.size ?_; intro v' w9 hown hgrow; have hO3r2:=hown; have hx:=zqal hx hO2r2 (by decide) hgrow; have hg:=zqas hBw hBw.size hO2r2 hgrow; have hk:=(row3 hx).1; have hBw:=hg; obtain ⟨pv',lv',cv',rfl⟩:=zqac hown; clear hown hgrow hg)
       | (refine zqay _ (by rfl) _ _ _ (by rfl) W0.heap.size 5 i0 (.int .u8 0) 1 Tryz.underlying36 hi hz0 hz1 hz2 (by rfl) .u8 _ _ QQ YL (by rfl) (by rfl) hOr2 hd2r2 (by unfold maxLen; have:=HPL.out; simp only [List.length_append] at this ⊢; omega) (by have:=HPL.out; simp only [List.length_append] at this ⊢; omega) hBw.size ?_; intro v' w9 hown hgrow; have hO2r2:=hown; have hx:=zqal hx hOr2 (by decide) hgrow; have hg:=zqas hBw hBw.size hOr2 hgrow; have hk:=(row3 hx).1; have hBw:=hg; obtain ⟨pv',lv',cv',rfl⟩:=zqac hown; clear hown hgrow hg)
       | (go_at_call 23; refine (HTl.out _).mono ?_; rintro r w2 ⟨⟨d,rfl,ho⟩,hb2⟩; have hd2r2:=Ints.own ho; have hOr2:=zqai hOr2 hb2; have hx:=(hb2.block _ (Array.getElem?_eq_some_iff.1 hx).1).trans hx; have hk:=(row3 hx).1; have hBw:=zqaa hBw hb2; obtain ⟨da,dl,dc,rfl⟩:=zqac ho; clear ho hb2))
     have HS6:=zh (And.intro hO3r2 hBw);have HX6:=zh hx;obtain ⟨pva,pvl,pvc,hpv⟩:=zqac hO3r2;clear hk hOr2 hO2r2 hO3r2 hBw hd2r2 hx HX3 HS1 HPL;go_upto_region 18 with fail;have hOr3:=zqai HS6.out.1 (Below.refl _ _).drew;have hBw:=HS6.out.2.drew;have hx:w9.drew.heap[BK]? = some (.cells #[.slice pq lx.length cq,.float .f64 y1,.float .f64 y2] 48 (0,0)):=HX6.out;have hk:=And.intro (row3 hx).2.1 (row3 hx).2.2;have HPL:=zh (show (QQ ++ YL ++ lx ++ Y1 ++ Y2).length ≤ 40000 by have:=HPL0.out; have:=HY.out; simp only [List.length_append]; omega)
     go_region_held3 (fun w' => w'.cell? ⟨BK,1,none⟩ = some (.float .f64 y1) ∧ w'.cell? ⟨BK,2,none⟩ = some (.float .f64 y2)) (with_reducible exact hk)
      (first
       | (have hx2:=hO2r3; clear hx2; refine zqay _ (by rfl) _ _ _ (by rfl) W0.heap.size 5 i0 (.int .u8 0) 1 Tryz.underlying36 hi hz0 hz1 hz2 (by rfl) .u8 _ _ ((QQ ++ YL ++ lx) ++ Y1) Y2 (by rfl) (by rfl) hO2r3 hd3r3 (by unfold maxLen; have:=HPL.out; simp only [List.length_append] at this ⊢; omega) (by have:=HPL.out; simp only [List.length_append] at this ⊢; omega) hBw.size ?_; intro v' w9 hown hgrow; have hO3r3:=hown; have hx:=zqal hx hO2r3 (by decide) hgrow; have hg:=zqas hBw hBw.size hO2r3 hgrow; have hk:=And.intro (row3 hx).2.1 (row3 hx).2.2; have hBw:=hg; obtain ⟨pv',lv',cv',rfl⟩:=zqac hown; clear hown hgrow hg)
       | (refine zqay _ (by rfl) _ _ _ (by rfl) W0.heap.size 5 i0 (.int .u8 0) 1 Tryz.underlying36 hi hz0 hz1 hz2 (by rfl) .u8 _ _ (QQ ++ YL ++ lx) Y1 (by rfl) (by rfl) hOr3 hd2r3 (by unfold maxLen; have:=HPL.out; simp only [List.length_append] at this ⊢; omega) (by have:=HPL.out; simp only [List.length_append] at this ⊢; omega) hBw.size ?_; intro v' w9 hown hgrow; have hO2r3:=hown; have hx:=zqal hx hOr3 (by decide) hgrow; have hg:=zqas hBw hBw.size hOr3 hgrow; have hk:=And.intro (row3 hx).2.1 (row3 hx).2.2; have hBw:=hg; obtain ⟨pv',lv',cv',rfl⟩:=zqac hown; clear hown hgrow hg)
       | (have hx2:=hO2r3; clear hx2; go_at_call 25; refine (HT2.out _).mono ?_; rintro r w2 ⟨⟨d,rfl,ho⟩,hb2⟩; have hd3r3:=Ints.own ho; have hO2r3:=zqai hO2r3 hb2; have hx:=(hb2.block _ (Array.getElem?_eq_some_iff.1 hx).1).trans hx; have hk:=And.intro (row3 hx).2.1 (row3 hx).2.2; have hBw:=zqaa hBw hb2; obtain ⟨da,dl,dc,rfl⟩:=zqac ho; clear ho hb2)
       | (go_at_call 25; refine (HT1.out _).mono ?_; rintro r w2 ⟨⟨d,rfl,ho⟩,hb2⟩; have hd2r3:=Ints.own ho; have hOr3:=zqai hOr3 hb2; have hx:=(hb2.block _ (Array.getElem?_eq_some_iff.1 hx).1).trans hx; have hk:=And.intro (row3 hx).2.1 (row3 hx).2.2; have hBw:=zqaa hBw hb2; obtain ⟨da,dl,dc,rfl⟩:=zqac ho; clear ho hb2))
     have HS9:=zh (And.intro hO3r3 hBw);obtain ⟨pva,pvl,pvc,hpv⟩:=zqac hO3r3;clear hk hOr3 hO2r3 hO3r3 hBw hd2r3 hd3r3 hx HPL;go_wp2_with fail;go_roundw
     case rel => exact ⟨k + 1,hle.out,by go_num,zh ⟨by rw [HNk.out,HEW.out,← List.append_assoc,HQQ.out]; have:=HS9.out.1; simpa only [List.append_assoc] using this,HS9.out.2⟩⟩
     case measure => simp [intOf]; omega
    ·have hke:k = c.ns.length:=by omega
     subst hke;have hS2:=HS.out;rw [HEr.out,← HF.out] at hS2;have HS2:=zh hS2;clear hS2 HS;have hcb:=HX.out.below HS2.out.2;obtain ⟨x0,x1,x2,x3⟩:=hcb.reads;clear hcb;go_wp2_with fail;go_ret;exact ⟨⟨_,rfl,zqbu HS2.out.1 HB0.out.size⟩,zqaa HB0.out HS2.out.2⟩
def stB (b:List Int) (most:Int) (s:Nat × Nat):List Int × Nat × Nat :=
 if s.2 = 0 then ((bN most (b.drop s.1)).1,if (bN most (b.drop s.1)).2.2 = 0 then s.1 + (bN most (b.drop s.1)).2.1 else s.1,(bN most (b.drop s.1)).2.2) else ([],s)
theorem zqv1 {b:List Int} (hb:Bt b) (most:Int):((bN most b).2.2 = 0 → (bN most b).2.1 ≤ b.length) ∧ (bN most b).2.2 < 9:=by
 have h:=zqde hb;unfold bN
 split
 ·rename_i h0; exact ⟨fun q => absurd q h0,h.2⟩
 ·rename_i h0;have h1:=h.1 (by omega)
  split
  ·exact ⟨fun q => by simp at q,by simp⟩
  ·split
   ·exact ⟨fun q => by simp at q,by simp⟩
   ·simp only; omega
theorem zqvf {b:List Int} (hb:Bt b) (most:Int) {s:Nat × Nat} (h:OkSt b s):OkSt b (stB b most s).2:=by
 unfold stB
 split
 ·have:=zqv1 (hb.drop s.1) most;refine ⟨?_,this.2⟩;simp only
  split
  ·rename_i h0;have h1:=this.1 h0;have h2:=h.1;rw [List.length_drop] at h1;omega
  ·exact h.1
 ·exact h
theorem zq02 {b:List Int} (hb:Bt b) {most:Int} (h:(bN most b).2.2 = 0):b.take (bN most b).2.1 = encU (bN most b).1.length ++ (bN most b).1 ∧ ((bN most b).1.length:Int) ≤ max most 0 ∧ Bt (bN most b).1:=by
 unfold bN at h ⊢
 split at h
 ·rename_i h0; exact absurd h h0
 ·rename_i h0;rw [if_neg h0]
  split at h
  ·simp at h
  ·rename_i h1;rw [if_neg h1]
   split at h
   ·simp at h
   ·rename_i h2;rw [if_neg h2];have hz:(getU b).2.2 = 0:=by omega
    have hf:=(zqde hb).1 hz;have hi:=zqwx hb hz;have hl:((b.drop (getU b).2.1).take (getU b).1.toNat).length = (getU b).1.toNat:=by rw [List.length_take,List.length_drop]; omega
    simp only;refine ⟨?_,by rw [hl]; omega,fun x hx => hb.drop _ x (List.mem_of_mem_take hx)⟩
    rw [List.take_add,hi,hl]
theorem zqpc {b:List Int} (hb:Bt b) {most:Int} (h0:0 ≤ most) (s:Nat × Nat):Bt (stB b most s).1 ∧ ((stB b most s).1.length:Int) ≤ most:=by
 unfold stB
 split
 ·simp only
  by_cases h:(bN most (b.drop s.1)).2.2 = 0
  ·have:=zq02 (hb.drop s.1) h;exact ⟨this.2.2,by omega⟩
  ·have e:(bN most (b.drop s.1)).1 = []:=by
    unfold bN at h ⊢
    split
    ·rfl
    ·rename_i q;rw [if_neg q] at h
     split
     ·rfl
     ·rename_i q2;rw [if_neg q2] at h
      split
      ·rfl
      ·rename_i q3;rw [if_neg q3] at h;simp at h
   rw [e];exact ⟨fun x hx => (by cases hx),by simpa using h0⟩
 ·exact ⟨fun x hx => (by cases hx),by simpa using h0⟩
def rdSq (b:List Int) (n:Nat) (s:Nat × Nat):List Int × Nat × Nat:=listK (fun _ s => stU b 4294967295 s) s n
def rdW1 (b:List Int) (s:Nat × Nat):Int × Nat × Nat:=stI b s
def rdW2 (b:List Int) (s:Nat × Nat):Int × Nat × Nat:=stI b (rdW1 b s).2
def rdW3 (b:List Int) (s:Nat × Nat):Int × Nat × Nat:=stU b 7 (rdW2 b s).2
def rdW4 (b:List Int) (s:Nat × Nat):List Int × Nat × Nat:=rdSq b (rdW3 b s).1.toNat (rdW3 b s).2
def rdW5 (b:List Int) (s:Nat × Nat):Int × Nat × Nat:=stI b (rdW4 b s).2
def rdW6 (b:List Int) (s:Nat × Nat):Int × Nat × Nat:=stI b (rdW5 b s).2
def rdWh (b:List Int) (s:Nat × Nat):Wh × Nat × Nat:=(⟨(rdW1 b s).1,(rdW2 b s).1,(rdW4 b s).1,(rdW5 b s).1,(rdW6 b s).1⟩,(rdW6 b s).2)
def rdR1 (b:List Int) (s:Nat × Nat):List Int × Nat × Nat:=stB b 283 s
def rdR2 (b:List Int) (s:Nat × Nat):Nat × Nat × Nat:=stF b (rdR1 b s).2
def rdR3 (b:List Int) (s:Nat × Nat):Nat × Nat × Nat:=stF b (rdR2 b s).2
def rdRe (b:List Int) (s:Nat × Nat):Re × Nat × Nat:=(⟨(rdR1 b s).1,(rdR2 b s).1,(rdR3 b s).1⟩,(rdR3 b s).2)
def rdC1 (b:List Int) (s:Nat × Nat):Int × Nat × Nat:=stU b 18446744073709551615 s
def rdC2 (b:List Int) (s:Nat × Nat):Int × Nat × Nat:=stI b (rdC1 b s).2
def rdC3 (b:List Int) (ni:Nat) (s:Nat × Nat):List Wh × Nat × Nat:=listK (fun _ s => rdWh b s) (rdC2 b s).2 ni
def rdC4 (b:List Int) (ni nn:Nat) (s:Nat × Nat):List Re × Nat × Nat:=listK (fun _ s => rdRe b s) (rdC3 b ni s).2 nn
def rdCe (b:List Int) (ni nn:Nat) (s:Nat × Nat):Ce × Nat × Nat:=(⟨(rdC1 b s).1,(rdC2 b s).1,(rdC3 b ni s).1,(rdC4 b ni nn s).1⟩,(rdC4 b ni nn s).2)
theorem zqhc {b:List Int} (hb:Bt b) (n:Nat) {s:Nat × Nat} (h:OkSt b s):OkSt b (rdSq b n s).2 ∧ (rdSq b n s).1.length = n:=zqbt (P:=OkSt b) (fun _ _ h => zqg2 hb _ h) h _
theorem zqj7 {b:List Int} (hb:Bt b) {s:Nat × Nat} (h:OkSt b s):OkSt b (rdWh b s).2:=zqc6 (zqc6 (zqhc hb _ (zqg2 hb _ (zqc6 (zqc6 h)))).1)
theorem zqo5 {b:List Int} (hb:Bt b) {s:Nat × Nat} (h:OkSt b s):OkSt b (rdRe b s).2:=zqm9 (zqm9 (zqvf hb _ h))
theorem zq0c {b:List Int} (hb:Bt b) (ni nn:Nat) {s:Nat × Nat} (h:OkSt b s):OkSt b (rdCe b ni nn s).2 ∧ (rdCe b ni nn s).1.is.length = ni ∧ (rdCe b ni nn s).1.ns.length = nn:=by
 have h2:=zqbt (P:=OkSt b) (rd:=fun _ s => rdWh b s) (fun _ _ h => zqj7 hb h) (zqc6 (zqg2 hb 18446744073709551615 h)) ni
 have h3:=zqbt (P:=OkSt b) (rd:=fun _ s => rdRe b s) (fun _ _ h => zqo5 hb h) h2.1 nn
 exact ⟨h3.1,h2.2,h3.2⟩
end Go.Proofs.YtafmghloohhaeaaGreatDoor
namespace Go.Proofs.YtafmghloohhaeaaGreatDoor
set_option maxRecDepth 100000
open Go.RowKit
set_option linter.unusedVariables false
abbrev NOwn (w:World) (B:Nat) (v:Value) (l:List Nat):Prop:=w.ownsRow B 46 1 v l.length (l.map (Value.float .f64))
theorem Fls.own {w:World} {B:Nat} {v:Value} {l:List Nat} (h:NOwn w B v l):Fls w v l:=by
 obtain ⟨hl,h⟩:=h;rcases h with ⟨rfl,h0⟩ | ⟨g,cap,cur,rfl,_,hb,hnc,hm,hs,ht⟩
 ·have:l = []:=List.length_eq_zero_iff.1 h0;subst this;exact ⟨none,0,rfl,by simp,.inl rfl⟩
 ·refine ⟨_,cap,rfl,by omega,.inr ⟨g,0,rfl,(Array.getElem?_eq_some_iff.1 hb).1,fun i hi => ?_⟩⟩
  have e:(l.map (Value.float .f64))[i]? = some (.float .f64 (l.getD i 0)):=by simp [List.getD,hi]
  rw [← ht,List.getElem?_take,if_pos (by omega)] at e
  rw [Nat.zero_add,cell_of_row _ _ i _ _ (0,0) hb];simpa using e
theorem zqgj (w:World) (N:Nat) (b:List Int) (s:Nat × Nat) (h:InAt w N b s.1 s.2) (h9:s.2 < 9) :
  Calls Tryz.prog 62 #[.pointer (some ⟨N,0,none⟩)] w fun r w' => r = .returned (.int .i64 (stI b s).1) ∧ InAt w' N b (stI b s).2.1 (stI b s).2.2 ∧ w.grownBy w' (some N):=by
 obtain ⟨p,e⟩:=s;simp only at h h9;unfold stI
 by_cases he:e = 0
 ·subst he;rw [if_pos rfl];refine (zqzw w N b p h).mono ?_;rintro r w' ⟨⟨v,rfl,rfl⟩,h2,h3⟩;exact ⟨rfl,h2,h3⟩
 ·rw [if_neg he];refine (zqw6 w _ e (h.shut he (by omega))).mono ?_
  rintro r w' ⟨rfl,hb⟩;exact ⟨rfl,h.below hb,zqah hb _⟩
theorem zqte (w:World) (N:Nat) (b:List Int) (s:Nat × Nat) (h:InAt w N b s.1 s.2) (h9:s.2 < 9) :
  Calls Tryz.prog 65 #[.pointer (some ⟨N,0,none⟩)] w fun r w' => r = .returned (.float .f64 (stF b s).1) ∧ InAt w' N b (stF b s).2.1 (stF b s).2.2 ∧ w.grownBy w' (some N):=by
 obtain ⟨p,e⟩:=s;simp only at h h9;unfold stF
 by_cases he:e = 0
 ·subst he;rw [if_pos rfl];refine (zqzv w N b p h).mono ?_;rintro r w' ⟨⟨v,rfl,rfl⟩,h2,h3⟩;simp only;unfold fN at *
  by_cases q:(getF (b.drop p)).2 = 0
  ·rw [if_pos q] at h2 ⊢;simp only [if_true] at h2 ⊢;rw [if_pos q,if_pos q,q];exact ⟨rfl,h2,h3⟩
  ·rw [if_neg q] at h2 ⊢;simp only [if_neg q] at h2 ⊢;exact ⟨True.intro,h2,h3⟩
 ·rw [if_neg he];refine (zqw5 w _ e (h.shut he (by omega))).mono ?_
  rintro r w' ⟨rfl,hb⟩;exact ⟨rfl,h.below hb,zqah hb _⟩
set_option maxRecDepth 100000
open Go.RowKit
set_option linter.unusedVariables false
set_option maxRecDepth 100000
open Go.RowKit
set_option linter.unusedVariables false
theorem zqwk (w:World) (N:Nat) (b:List Int) (s:Nat × Nat) (h:InAt w N b s.1 s.2) (h9:s.2 < 9) :
  Calls Tryz.prog 30 #[.pointer (some ⟨N,0,none⟩)] w fun r w' => (∃ p:Int,r = .returned (.tuple #[.int .i64 p,.int .i64 s.2])) ∧ w = w':=by
 obtain ⟨p,e⟩:=s;simp only at h h9
 by_cases he:e = 0
 ·subst he;refine (zqwj w N b p h).mono ?_;rintro r w' ⟨rfl,rfl⟩;exact ⟨⟨0,rfl⟩,rfl⟩
 ·refine (zqsv w N b p e h he h9).mono ?_;rintro r w' ⟨rfl,rfl⟩;exact ⟨⟨p,rfl⟩,rfl⟩
set_option maxRecDepth 100000
open Go.RowKit
set_option linter.unusedVariables false
theorem zqha {α:Type} {e:α → List Int}:∀ {l:List α},(∀ x ∈ l,Bt (e x)) → Bt (l.flatMap e)
 | [],_ => zql5
 | x :: l,h => by
  rw [List.flatMap_cons];exact (h x (List.mem_cons_self ..)).append (zqha fun y hy => h y (List.mem_cons_of_mem _ hy))
theorem FaWf.norm {f:Fa} (h:FaWf f):FaWf (normF f):=by
 refine ⟨h.c,h.i,fun x hx => ?_,?_⟩
 ·obtain ⟨y,hy,rfl⟩:=List.mem_map.1 hx;exact (zqbz (zqb6 (h.n y hy))).1
 ·refine ⟨h.l.1,h.l.2.1,?_⟩;show (f.ns.map _).length ≤ _
  rw [List.length_map];exact h.l.2.2
end Go.Proofs.YtafmghloohhaeaaGreatDoor
namespace Go.Proofs.YtafmghloohhaeaaGreatDoor
set_option maxRecDepth 100000
open Go.RowKit
set_option linter.unusedVariables false
set_option maxRecDepth 100000
open Go.RowKit
set_option linter.unusedVariables false
theorem zqpe {b:List Int} (s:Nat × Nat):W64 (stF b s).1:=by
 unfold stF
 split
 ·simp only
  split
  ·rename_i h;have hk:Keyed (getF (b.drop s.1)).1:=by
    unfold getF at h ⊢
    by_cases h8:8 ≤ (b.drop s.1).length
    ·rw [if_pos h8] at h ⊢
     by_cases hk:Keyed (fillN (b.drop s.1) 0 8)
     ·rw [if_pos hk]; exact hk
     ·rw [if_neg hk] at h; simp at h
    ·rw [if_neg h8] at h
     split at h <;> simp at h
   exact (zqbz hk).1
  ·show W64 0; unfold W64; decide
 ·show W64 0; unfold W64; decide
set_option maxRecDepth 100000
open Go.RowKit
set_option linter.unusedVariables false
end Go.Proofs.YtafmghloohhaeaaGreatDoor
namespace Go.Proofs.YtafmghloohhaeaaGreatDoor
set_option maxRecDepth 100000
open Go.RowKit
set_option linter.unusedVariables false
theorem zq1g (w:World) (N:Nat) (b:List Int) (s:Nat × Nat) (most:Int) (h:InAt w N b s.1 s.2) (h9:s.2 < 9) (hm:most ≤ 9223372036854775807) :
  Calls Tryz.prog 64 #[.pointer (some ⟨N,0,none⟩),.int .i64 most] w fun r w' => (∃ v,r = .returned v ∧ BOwn w' w.heap.size v (stB b most s).1) ∧ InAt w' N b (stB b most s).2.1 (stB b most s).2.2 ∧ w.grownBy w' (some N):=by
 obtain ⟨p,e⟩:=s;simp only at h h9;unfold stB
 by_cases he:e = 0
 ·subst he;rw [if_pos rfl];exact zqw4 w N b p most h hm
 ·rw [if_neg he];refine (zqw3 w _ e most (h.shut he (by omega))).mono ?_
  rintro r w' ⟨rfl,hb⟩;exact ⟨⟨_,rfl,own0 _ _⟩,h.below hb,zqah hb _⟩
end Go.Proofs.YtafmghloohhaeaaGreatDoor
