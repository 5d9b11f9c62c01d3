/- Layer 15: CellsRight: whether a list is right, where each key stands, and all of it together, are told as the reference tells: any schema, any set, any list; no condition. -/
import Derived.SevenTiedAt
import Derived.Test.YtmnbljijnbhghaaGreatDoorRows
import Derived.Test.YtmnbljijnbhghaaGreatDoorCards
import Derived.Test.YtmnbljijnbhghaaGreatDoorTie
import Derived.Test.YtmnbljijnbhghaaGreatDoorPt02
import Derived.Test.YtmnbljijnbhghaaGreatDoorPt09
import Derived.Test.YtmnbljijnbhghaaGreatDoorPt11
import Derived.Test.YtmnbljijnbhghaaGreatDoorPt12
import Derived.Test.YtmnbljijnbhghaaGreatDoorPt29
import Derived.Test.YtmnbljijnbhghaaGreatDoorPt30
import Derived.Test.YtmnbljijnbhghaaGreatDoorPt32
import Derived.Test.YtmnbljijnbhghaaGreatDoorPt33
import Derived.Test.YtmnbljijnbhghaaGreatDoorPt35
namespace Go.Proofs.YtmnbljijnbhghaaGreatDoor.cellsRight
set_option maxRecDepth 100000
open Go.ChangeShapes Go.WideShapes Go.ChangeAt Go.RowKit
set_option linter.unusedVariables false
theorem hold4r {w w':World} (hb:Below w.heap.size w w') {p0 p1 p2 p3:Addr} {v0 v1 v2 v3:Value}
  (h:w.cell? p0 = some v0 ∧ w.cell? p1 = some v1 ∧ w.cell? p2 = some v2 ∧ w.cell? p3 = some v3):w'.cell? p0 = some v0 ∧ w'.cell? p1 = some v1 ∧ w'.cell? p2 = some v2 ∧ w'.cell? p3 = some v3 :=
 ⟨cell_later hb h.1,cell_later hb h.2.1,cell_later hb h.2.2.1,cell_later hb h.2.2.2⟩
theorem sofar_all {cs:List Ce} (hs:∀ k,k < cs.length → Sv 1 (cg cs k)) (hl:cs.length ≤ 900) (h0:(foldC [] cs).1 = 0):∀ k,k ≤ cs.length → ∃ ms,Sofar cs k ms
 | 0,_ => ⟨[],Sofar.start cs⟩
 | k + 1,hk => by
  obtain ⟨ms,hm⟩:=sofar_all hs hl h0 k (by omega)
  by_cases e:(withL ms (cg cs k)).1 = 0
  ·exact ⟨_,hm.next (by omega) (hs k (by omega)) (by omega) e⟩
  ·have h1:=hm.stop (by omega) e
   rw [h1] at h0;exact absurd h0 e
theorem ce0_w:CeW ce0:=⟨by decide,by unfold I64; decide,(fun x hx => nomatch hx),(fun x hx => nomatch hx)⟩
theorem totalE_w {l:List Ce} (hs:∀ c ∈ l,Sv 1 c) (hl:l.length ≤ 900):CeW (totalE l).2:=by
 unfold totalE
 by_cases h:l = []
 ·rw [if_pos h]; exact ce0_w
 ·rw [if_neg h]
  by_cases h0:(foldC [] (l.map zeroK)).1 = 0
  ·rw [if_pos h0];obtain ⟨ms,hm⟩:=sofar_all (cs:=l.map zeroK) (fun k hk => by
    have hk2:k < l.length:=by simpa using hk
    rw [zqfc hk2];exact (hs _ (by rw [zqat hk2]; exact List.getElem_mem hk2)).key 0 (by decide)) (by simpa using hl) h0 _ (Nat.le_refl _)
   rw [hm.end];show CeW (cg ms 0)
   by_cases hz:0 < ms.length
   ·rw [zqat hz]; exact (hm.v _ (List.getElem_mem hz)).1
   ·obtain rfl:=List.length_eq_zero_iff.1 (by omega:ms.length = 0)
    exact ce0_w
  ·rw [if_neg h0]; exact ce0_w
set_option maxHeartbeats 16000000 in
theorem walk (D I N V:Value) (S:Sc) (m:Int) (v:Value) (l:List Ce) (w:World) (h:Sch4 w D I N V S) (hw:SWf S) (hm:0 ≤ m ∧ m ≤ 4294967295) (h':Cells w v l) (hl:LsW l) (hT:Tab w) (hT2:Tab64 w) :
  Calls Tryz.prog 3 #[SchV D I N V,.int .u32 m,v] w fun e w' => e = .returned (.bool true) ∧ Below w.heap.size w w':=by
 have HB:=zh (zqab w (SchO D I N V));have HX:=zh (zqau w D I N V);have HA:=zh (fun w1 (hb:Below w.heap.size w w1) => zqoc w1 (hT.call hb) (hT2.call hb))
 have HSl:=zh (fun w1 (hb:Below w.heap.size w w1) => zqrv w1 D I N V S (h.below hb))
 have HLl:=zh (fun w1 (hb:Below w.heap.size w w1) => zqni w1 v l (h'.below hb))
 have HPR:=zh (fun w1 (hb:Below w.heap.size w w1) => zqgo w1 D I N V v S m l (h.below hb) hw (h'.below hb) hl hm.1 hm.2)
 have HRR:=zh (fun w1 (hb:Below w.heap.size w w1) => zqnl w1 D I N V v S m l (h.below hb) hw (h'.below hb) hl hm.1 hm.2)
 have HSm:=zh (fun w1 (hb:Below w.heap.size w w1) => zqos w1 v v l l (h'.below hb) (h'.below hb) hl hl)
 rw [zqsr] at HSm;have HRi:=zh (fun w1 (hb:Below w.heap.size w w1) => zqhq w1 v l (h'.below hb))
 have HC:=zh h';obtain ⟨⟨a1,c1,rfl⟩,⟨a2,c2,rfl⟩,⟨a3,c3,rfl⟩,a4,c4,rfl⟩:=h.slices;obtain ⟨p,cap,rfl,-,hmx,-⟩:=id h';go_enter Tryz.func3,Tryz.ntmps3;obtain ⟨x0,x1,x2,x3⟩:=HX.out.reads;go_wp2_with fail;refine (HSl.out _ HB.out).mono ?_; rintro e w1 ⟨⟨bb,rfl⟩,hb⟩;have HB1:=zh (zqaa HB.out hb);have HX1:=zh (HX.out.below hb);clear hb x0 x1 x2 x3 HX HB HSl;cases bb with
 | false =>
  clear HPR HRR HSm HRi HLl h h' hl hw;go_wp2_with fail;refine (HA.out _ HB1.out).mono ?_; rintro e wA ⟨rfl,hbA⟩;have HBA:=zh (zqaa HB1.out hbA);clear hbA;go_wp2_with fail;go_ret;exact ⟨rfl,HBA.out⟩
 | true =>
 go_wp2_with fail;refine (HLl.out _ HB1.out).mono ?_; rintro e w2 ⟨rfl,hb⟩;have HB2:=zh (zqaa HB1.out hb);have HX2:=zh (HX1.out.below hb);clear hb HX1 HB1 HLl
 by_cases hli:lightL l = true
 rotate_left
 ·rw [eq_false_of_ne_true hli];clear HPR HRR HSm HRi h h' hl hw;go_wp2_with fail;refine (HA.out _ HB2.out).mono ?_; rintro e wA ⟨rfl,hbA⟩;have HBA:=zh (zqaa HB2.out hbA);clear hbA;go_wp2_with fail;go_ret;exact ⟨rfl,HBA.out⟩
 rw [hli];obtain ⟨hl60,hlc⟩:=zqfv.1 hli;have hsv:∀ c ∈ l,Sv 1 c:=fun c hc => by
  obtain ⟨i,hi,rfl⟩:=List.getElem_of_mem hc;have:=hlc i hi;rw [zqat hi] at this;exact zqwv this (hl _ hc)
 have HPT:=zh (fun w1 (hb:Below w.heap.size w w1) => zqnh w1 _ l (h'.below hb) hsv (by omega) (hT.call hb))
 have HRT:=zh (fun w1 (hb:Below w.heap.size w w1) => zqnm w1 _ l (h'.below hb) hsv (by omega))
 have hTw:=totalE_w hsv (by omega)
 have HSa:=zh (fun w1 I N I' N' (h1:CeM w1 I N (totalE l).2) (h2:CeM w1 I' N' (totalE l).2) => zqow w1 (totalE l).2 (totalE l).2 I N I' N' h1 h2 hTw hTw)
 rw [zqju] at HSa;have HFi:=zh (fun w1 key (hb:Below w.heap.size w w1) (hr:risingB l = true) => zqt8 w1 _ l key (h'.below hb) hr (by omega))
 unfold TotP15 at HPT HRT;have HKb:=zh (fun i (hi:i < l.length) => (hl.cg hi).key)
 clear h hw h' hl hlc hsv hTw hli;generalize totalE l = T at *;generalize rightL S m l = R at *;have hk:=hold4r ((Below.refl w2.heap.size w2).drew) HX2.out.reads;go_upto_region 3 with fail;have hBw:=HB2.out.drew;go_region_held3 (fun w' => w'.cell? ⟨w.heap.size,0,none⟩ = some (.slice a1 S.ds.length c1) ∧ w'.cell? ⟨w.heap.size,1,none⟩ = some (.slice a2 S.is.length c2) ∧ w'.cell? ⟨w.heap.size,2,none⟩ = some (.slice a3 S.ns.length c3) ∧ w'.cell? ⟨w.heap.size,3,none⟩ = some (.slice a4 S.vs.length c4)) (with_reducible exact hk)
  (first
   | (go_at_call 13; refine (HPR.out _ (by first | with_reducible exact hBw | with_reducible exact hBw.drew)).mono ?_; rintro r wv ⟨rfl,hb⟩; replace hk:=hold4r hb hk; replace hBw:=zqaa hBw hb; clear hb)
   | (go_at_call 14; refine (HRR.out _ (by first | with_reducible exact hBw | with_reducible exact hBw.drew)).mono ?_; rintro r wv ⟨rfl,hb⟩; replace hk:=hold4r hb hk; replace hBw:=zqaa hBw hb; clear hb)
   | (go_at_call 15; refine (HSm.out _ (by first | with_reducible exact hBw | with_reducible exact hBw.drew)).mono ?_; rintro r wv ⟨rfl,hb⟩; replace hk:=hold4r hb hk; replace hBw:=zqaa hBw hb; clear hb))
 have HB3:=zh hBw;clear hk hBw HX2 HB2 HPR HRR HSm;go_wp2_with fail;refine (HPT.out _ HB3.out).mono ?_; rintro e w3 ⟨I1,N1,rfl,hm1,hb⟩;obtain ⟨⟨i1,j1,rfl⟩,n1,k1,rfl⟩:=hm1.slices;have hbb:=zqaa hb (zqab w3 (CeO T.2 (.slice i1 T.2.is.length j1) (.slice n1 T.2.ns.length k1)));have HB4:=zh (zqaa HB3.out hbb);have HM1:=zh (hm1.below (zqab w3 (CeO T.2 (.slice i1 T.2.is.length j1) (.slice n1 T.2.ns.length k1))));have HC1:=zh (heap_alloc_new w3 (CeO T.2 (.slice i1 T.2.is.length j1) (.slice n1 T.2.ns.length k1)));clear hb hbb hm1 HPT HB3;go_upto_region 6 with fail;generalize w3.alloc (CeO T.2 (.slice i1 T.2.is.length j1) (.slice n1 T.2.ns.length k1)) = w4 at *;generalize w3.heap.size = P1 at *;go_wp2_with fail;refine (HRT.out _ HB4.out).mono ?_; rintro e w5 ⟨I2,N2,rfl,hm2,hb⟩;obtain ⟨⟨i2,j2,rfl⟩,n2,k2,rfl⟩:=hm2.slices;have hbb:=zqaa hb (zqab w5 (CeO T.2 (.slice i2 T.2.is.length j2) (.slice n2 T.2.ns.length k2)));have HB5:=zh (zqaa HB4.out hbb);have HM2:=zh (hm2.below (zqab w5 (CeO T.2 (.slice i2 T.2.is.length j2) (.slice n2 T.2.ns.length k2))));have HM3:=zh (HM1.out.below hbb);have HC2:=zh (heap_alloc_new w5 (CeO T.2 (.slice i2 T.2.is.length j2) (.slice n2 T.2.ns.length k2)));have HC3:=zh ((hbb.block P1 (Array.getElem?_eq_some_iff.1 HC1.out).1).trans HC1.out);clear hb hbb hm2 HRT HB4 HM1 HC1;go_upto_region 7 with fail;generalize w5.alloc (CeO T.2 (.slice i2 T.2.is.length j2) (.slice n2 T.2.ns.length k2)) = w6 at *;generalize w5.heap.size = P2 at *;obtain ⟨s0,s1,s2,s3⟩:=row4 HC3.out;obtain ⟨t0,t1,t2,t3⟩:=row4 HC2.out;go_wp2_with fail;refine (HSa.out _ _ _ _ _ HM3.out HM2.out).mono ?_; rintro e w7 ⟨rfl,hb⟩;have HB7:=zh (zqaa HB5.out hb);clear hb s0 s1 s2 s3 t0 t1 t2 t3 HSa HM3 HM2 HC2 HC3 HB5;go_wp2_with fail;refine (HRi.out _ HB7.out).mono ?_; rintro e w8 ⟨rfl,hb⟩;have HB8:=zh (zqaa HB7.out hb);clear hb HRi HB7;cases hri:risingB l with
 | false =>
  clear HFi hri;go_wp2_with fail;refine (HA.out _ HB8.out).mono ?_; rintro e wA ⟨rfl,hbA⟩;have HBA:=zh (zqaa HB8.out hbA);clear hbA;go_wp2_with fail;go_ret;exact ⟨rfl,HBA.out⟩
 | true =>
  have HFr:=zh (fun w1 key (hb:Below w.heap.size w w1) => HFi.out w1 key hb hri)
  have HFa:=zh (fun i n b (hi:i < l.length) (h:FindP l (cg l i).key n b) => zqyl hri hi h)
  have HFg:=zh (fun i n b (h0:0 < i) (hi:i < l.length) (hg:1 < (cg l i).key - (cg l (i - 1)).key) (h:FindP l ((cg l i).key - 1) n b) => zqwf hri h0 hi hg h)
  have HRl:=zh (fun i j (hij:i < j) (hj:j < l.length) => zqew hri i j hij hj)
  clear HFi hri;go_wp2_with fail;go_loopw [11] (fun iv wr => ∃ k:Nat,k ≤ l.length ∧ iv = .int .i64 k ∧ Hid (Below w.heap.size w wr)) (fun iv _ => l.length - (intOf iv).toNat)
  case atStart => exact ⟨0,Nat.zero_le _,rfl,HB8⟩
  case round =>
   obtain ⟨k,hk,rfl,HW⟩:=hrel;clear HB8
   by_cases hlt:k < l.length
   ·have hlt':(k:Int) < (l.length:Int):=by omega
    have hle:Hid (k + 1 ≤ l.length):=zh (by omega)
    have HF1:=zh (show Calls Tryz.prog 20 #[.slice p l.length cap,.int .u64 (cg l k).key] wr fun e w' => e = .returned (.tuple #[.int .i64 (k:Nat),.bool true]) ∧ Below wr.heap.size wr w' from (HFr.out wr (cg l k).key HW.out).mono fun e w' ⟨⟨n,b,he,hf⟩,hb⟩ => by
     obtain ⟨rfl,rfl⟩:=HFa.out k n b hlt hf;exact ⟨he,hb⟩)
    have hK:=HKb.out k hlt
    by_cases h0:0 < k
    ·obtain ⟨b0,off,rfl,-,⟨I,N,hx⟩,I',N',hy⟩:=HC.out.at2 hlt (show k - 1 < l.length by omega)
     have d0:=hx.c0;have f0:=hy.c0;have c0:=cell_later HW.out d0;have g0:=cell_later HW.out f0;have hlK:=HRl.out (k - 1) k (by omega) hlt
     have hK2:=HKb.out (k - 1) (by omega)
     have HF2:=zh (fun w1 (hb1:Below w.heap.size w w1) (hg:1 < (cg l k).key - (cg l (k - 1)).key) => show Calls Tryz.prog 20 #[.slice (some ⟨b0,off,none⟩) l.length cap,.int .u64 ((cg l k).key - 1)] w1 fun e w' => e = .returned (.tuple #[.int .i64 (k:Nat),.bool false]) ∧ Below w1.heap.size w1 w' from (HFr.out w1 ((cg l k).key - 1) hb1).mono fun e w' ⟨⟨n,b,he,hf⟩,hb⟩ => by
      obtain ⟨rfl,rfl⟩:=HFg.out k n b h0 hlt hg hf;exact ⟨he,hb⟩)
     clear hx hy d0 f0;generalize (cg l k).key = K at *;generalize (cg l (k - 1)).key = K' at *;go_wp2_with fail;refine HF1.out.mono ?_; rintro e w9 ⟨rfl,hb⟩;have HW9:=zh (zqaa HW.out hb);have c1:=cell_later hb c0;have g1:=cell_later hb g0;clear hb HF1 HW c0 g0;have h0':(0:Int) < (k:Int):=by omega
     have hd0:decide ((0:Int) < (k:Int)) = true:=decide_eq_true h0';have hm0:(0:Int) ≤ (k:Int) - 1:=by omega
     have hm1:(k:Int) - 1 < (l.length:Int):=by omega
     have hm2:((k:Int) - 1).toNat = k - 1:=by omega
     have hmw:IntKind.i64.wrap ((k:Int) - 1) = (k:Int) - 1:=IntWalk.i64_in _ (by omega)
     have hmw2:wrap64 ((k:Int) - 1) = (k:Int) - 1:=wrap64_in (by omega) (by omega)
     have hu1:IntKind.u64.wrap (K - K') = K - K':=by simp [IntKind.wrap,IntKind.bits,IntKind.signed]; omega
     have hu2:(K - K') % 18446744073709551616 = K - K':=Int.emod_eq_of_lt (by omega) (by omega)
     by_cases hg:1 < K - K'
     ·have hdg:decide (1 < K - K') = true:=decide_eq_true hg;have HF3:=zh (fun w1 hb1 => HF2.out w1 hb1 hg)
      have hu3:IntKind.u64.wrap (K - 1) = K - 1:=by simp [IntKind.wrap,IntKind.bits,IntKind.signed]; omega
      have hu4:(K - 1) % 18446744073709551616 = K - 1:=Int.emod_eq_of_lt (by omega) (by omega)
      clear hg HF2 HFr HFa HFg HRl HKb;go_wp2_with fail;go_quiet (fail);have HWq:=zh (zqa8 _ _ HW9.out nq);have c2:(w9.drewN nq).cell? _ = _:=c1;go_wp2_with fail;refine (HF3.out _ HWq.out).mono ?_; rintro e w10 ⟨rfl,hb⟩;have HWr:=zh (zqaa HWq.out hb);clear hb HF3 HWq c1 c2 g1;go_wp2_with fail;go_roundw
      case rel => exact ⟨k + 1,hle.out,by go_num,HWr⟩
      case measure => simp [intOf]; omega
     ·have hdg:decide (1 < K - K') = false:=decide_eq_false hg;clear hg HF2 HFr HFa HFg HRl HKb;go_wp2_with fail;go_quiet (fail);have HWq:=zh (zqa8 _ _ HW9.out nq);go_wp2_with fail;go_roundw
      case rel => exact ⟨k + 1,hle.out,by go_num,HWq⟩
      case measure => simp [intOf]; omega
    ·obtain ⟨b0,off,rfl,-,I,N,hx⟩:=HC.out.at hlt;have d0:=hx.c0;have c0:=cell_later HW.out d0;clear hx d0;generalize (cg l k).key = K at *;go_wp2_with fail;refine HF1.out.mono ?_; rintro e w9 ⟨rfl,hb⟩;have HW9:=zh (zqaa HW.out hb);clear hb HF1 HW c0 HFr HFa HFg HRl HKb;have h0':¬ (0:Int) < (k:Int):=by omega
     have hd0:decide ((0:Int) < (k:Int)) = false:=decide_eq_false h0';go_wp2_with fail;go_quiet (fail);have HWq:=zh (zqa8 _ _ HW9.out nq);go_wp2_with fail;go_roundw
     case rel => exact ⟨k + 1,hle.out,by go_num,HWq⟩
     case measure => simp [intOf]; omega
   ·obtain rfl:k = l.length:=by omega
    have hlt':¬ (l.length:Int) < (l.length:Int):=by omega
    clear HFr HFa HFg HRl HKb;go_wp2_with fail;refine (HA.out _ HW.out).mono ?_; rintro e wA ⟨rfl,hbA⟩;have HBA:=zh (zqaa HW.out hbA);clear hbA;go_wp2_with fail;go_ret;exact ⟨rfl,HBA.out⟩
set_option maxRecDepth 100000 in
theorem lifted (os:Os) (started:os.Started) (H:Type) (enc:TypeId × Value → H) :
  ReturnsInHanded {} Tryz.checked os 3 .any (fun w args => (Rows.cellsRightSpec.pre enc Tryz.prog Tryz.f3 [] false w args ∧ laidMetH Tryz.prog laid3 w) ∧ sizedMet enc Tryz.prog Tryz.f3 (OpenSpec.ofChange Rows.cellsRightSpec) false w args)
   (Rows.cellsRightSpec.post enc Tryz.prog Tryz.f3 false true false false):=by
 refine returnsInHanded_of_change_and (C:=Tryz.checked) (X:=fun w _ => laidMetH Tryz.prog laid3 w) (fun _ _ _ hh h => h.of_heap hh) own2 started (by kernel_rfl) Tryz.func3
  (ChangeSpec.witness_shaped (enc:=enc) (C:=Tryz.checked) (os:=os) (X:=fun w _ => laidMetH Tryz.prog laid3 w) false (World.doorLaid Tryz.prog 800 os) #[.agg #[.slice none 0 0,.slice none 0 0,.slice none 0 0,.slice none 0 0],.int .u32 0,.slice none 0 0] 8 rfl (World.shaped_of_RefB (by kernel_rfl) (by kernel_rfl)) (by kernel_rfl) (by kernel_rfl) (by kernel_rfl) (zqsp os _)) ?_
 intro W base args ds gs before hval0 hW _ _ hL _;have hTab:=zqzn hL;have hTab64:=zqu2 hL;have hval:∀ (j:Nat) t v,Tryz.f3.params[j]? = some t → args[j]? = some v → Value.okWide Tryz.prog W .any base t v:=hval0
 have hW':=hW;obtain ⟨p,q,hA0,hV,rfl,hfz,hnd⟩:=hW;have hA:DataW.TrodAll enc Tryz.prog W 0 (fun _ => true) true Tryz.f3.params.toList args.toList ds p:=hA0
 rw [Tryz.params3] at hA hval;obtain ⟨v0,vs0,d0,ds0,p0,q0,hargs,rfl,rfl,h0,r0⟩:=trodAll_cons hA;obtain ⟨v1,vs1,d1,ds1,p1,q1,rfl,rfl,rfl,h1,r1⟩:=trodAll_cons r0;obtain ⟨v2,vs2,d2,ds2,p2,q2,rfl,rfl,rfl,h2,r2⟩:=trodAll_cons r1;obtain ⟨rfl,rfl,rfl⟩:=trodAll_nil r2;obtain rfl:args = #[v0,v1,v2]:=by cases args; simp_all
 obtain ⟨rfl,rfl⟩:=trodVars_none hV;have k0:=h0;have lt0:∀ x ∈ p0,x.block < W.heap.size:=by obtain ⟨m,hm⟩:=k0; exact DataW.trod_lt m _ _ _ hm
 obtain ⟨D0,I0,N0,V0,S0,rfl,s0,w0⟩:=zquu (hval 0 26 v0 rfl rfl) h0;obtain ⟨a1,rfl,rfl,rfl,w1⟩:=open_int Tryz.underlying27 (hval 1 27 v1 rfl rfl) h1;have k2:=h2;have lt2:∀ x ∈ p2,x.block < W.heap.size:=by obtain ⟨m,hm⟩:=k2; exact DataW.trod_lt m _ _ _ hm
 obtain ⟨a2,len2,cap2,rfl⟩:=okWide_slice Tryz.underlying28 (hval 2 28 v2 rfl rfl);obtain ⟨l2,s2,w2⟩:=zqsh h2 ⟨_,_,_,rfl⟩;clear hA0 hval0;refine (walk D0 I0 N0 V0 S0 a1 (.slice a2 len2 cap2) l2 W s0 w0 (bounds_u32 w1) s2 w2 hTab hTab64).mono fun e W' ⟨he,bel⟩ => ?_
 subst he;exact ⟨_,rfl,_,_,_,[],_,[],hW',trodAll_mk1 (shut_bool Tryz.underlying4 _),(trodAll_cons_mk (Below.trod laidOut2 (by kernel_rfl) (of_decide_eq_true (by kernel_rfl)) k0 bel lt0) (trodAll_cons_mk (shut_int Tryz.underlying27 w1) (trodAll_cons_mk (Below.trod laidOut2 (by kernel_rfl) (of_decide_eq_true (by kernel_rfl)) k2 bel lt2) trodAll_mk0))),rfl,bel.frame _,fun h => by cases h⟩
theorem over:Rows.cellsRightRow.holds Tryz.pinned (OpenSpec.ofChange Rows.cellsRightSpec) :=
 OpenClaim.holds_of_wide 3 Tryz.f3 rfl rfl rfl rfl rfl rfl rfl ⟨rfl,rfl,rfl,rfl,rfl⟩ rfl rfl rfl rfl rfl (by kernel_rfl) Tryz.func3 (by kernel_rfl)
  (of_decide_eq_true (by kernel_rfl)) (by unfold Func.isWrapper; first | (rw [if_pos (by decide +kernel)]; kernel_rfl) | (rw [if_neg (by decide +kernel)]; exact ⟨rfl,rfl⟩))
  (fun os started H enc _ => lifted os started H enc)
theorem row_holds:Rows.CellsRightSaid:=over
end Go.Proofs.YtmnbljijnbhghaaGreatDoor.cellsRight
namespace Go.Proofs.YtmnbljijnbhghaaGreatDoor
theorem cellsRight_holds:Rows.CellsRightCardSaid :=
 Claim7.holds_tied_plain_at .later [] [.data,.data] true _ false
  cellsRight.row_holds (fun _ h => by cases h) (by kernel_rfl) (fun _ h => by cases h) cellsRight_row_tie rfl ⟨rfl,rfl⟩ (by kernel_rfl) rfl
  (fun f fn hf hfn => by
   obtain rfl : f = 3 := Option.some.inj ((show Tryz.prog.funcNamed "bushel/bushellaw15.CellsRight" = some 3 by kernel_rfl).symm.trans hf) |>.symm
   obtain rfl:fn = Tryz.f3:=(Option.some.inj (Tryz.func3.symm.trans hfn)).symm;exact ⟨by kernel_rfl,fun j t ht => by
    rw [Tryz.params3] at ht;have hm:t ∈ [26,27,28]:=by simpa using Array.mem_of_getElem? ht
    have hall:([26,27,28].all fun u => !Tryz.prog.wantsStandIn u) = true:=by kernel_rfl
    exact (show Tryz.prog.wantsStandIn t = false by simpa using List.all_eq_true.1 hall t hm)⟩)
  (by kernel_rfl)
#print axioms cellsRight_holds
end Go.Proofs.YtmnbljijnbhghaaGreatDoor
