/- Contracts that the law leans on: Agol Agoh. -/
import Derived.Test.YtpgchfihedcdkaaGreatDoorGt02
import Derived.Test.YtpgchfihedcdkaaGreatDoorGt29
import Derived.Test.YtpgchfihedcdkaaGreatDoorGt31
import Derived.Test.YtpgchfihedcdkaaGreatDoorGt33
import Derived.Test.YtpgchfihedcdkaaGreatDoorGt34
namespace Go.Proofs.YtpgchfihedcdkaaGreatDoor
set_option maxRecDepth 100000
open Go.RowKit
set_option linter.unusedVariables false
theorem zq3h {b:List Int} (hb:Bt b) (s:Nat × Nat):WhW (rdWh b s).1 where
 sum:=zqgi hb _
 abs:=zqgi hb _
 sq:=fun z hz => by
  obtain ⟨j,hj,e⟩:=List.getElem_of_mem hz;exact zqfe (rd:=fun _ s => stU b 4294967295 s) (Q:=fun _ x => 0 ≤ x ∧ x ≤ 4294967295) (fun _ s => zqcw hb (by decide) s) (rdW3 b s).2 (rdW3 b s).1.toNat j z (by rw [← e]; exact List.getElem?_eq_getElem hj)
 len:=by
  have h1:=(zqcw hb (most:=7) (by decide) (rdW2 b s).2).2
  have h2:=(zqbc (rd:=fun _ s => stU b 4294967295 s) (P:=fun _ => True) (fun _ _ _ => True.intro) (s:=(rdW3 b s).2) True.intro (rdW3 b s).1.toNat).2
  change (rdW3 b s).1 ≤ 7 at h1
  show (rdW4 b s).1.length ≤ _
  unfold rdW4 rdSq;omega
 mn:=zqgi hb _
 mx:=zqgi hb _
theorem zq3g {b:List Int} (hb:Bt b) (s:Nat × Nat):ReW (rdRe b s).1 where
 sum:=(zqls hb (by decide) _).1
 len:=by
  have h:=(zqls hb (most:=283) (by decide) s).2
  show (rdR1 b s).1.length ≤ _
  unfold rdR1;omega
 mn:=zqq7 _
 mx:=zqq7 _
theorem zqkq {b:List Int} (hb:Bt b) (ni nn:Nat) (s:Nat × Nat):CeW (rdCe b ni nn s).1 where
 key:=zqcw hb (by decide) _
 cnt:=zqgi hb _
 is:=fun x hx => by
  obtain ⟨j,hj,e⟩:=List.getElem_of_mem hx;exact zqfe (rd:=fun _ s => rdWh b s) (Q:=fun _ x => WhW x) (fun _ s => zq3h hb s) (rdC2 b s).2 ni j x (by rw [← e]; exact List.getElem?_eq_getElem hj)
 ns:=fun x hx => by
  obtain ⟨j,hj,e⟩:=List.getElem_of_mem hx;exact zqfe (rd:=fun _ s => rdRe b s) (Q:=fun _ x => ReW x) (fun _ s => zq3g hb s) (rdC3 b ni s).2 nn j x (by rw [← e]; exact List.getElem?_eq_getElem hj)
def gotE (S:Sc) (m:Int) (b:List Int):Nat:=if checkL S = 0 ∧ m ≤ fullL S.ds then if (rdCe b S.is.length S.ns.length (0,0)).2.2 = 0 then if rightC S m (rdCe b S.is.length S.ns.length (0,0)).1 = true then 0 else 6 else (rdCe b S.is.length S.ns.length (0,0)).2.2 else codE S m 0
def gotC (S:Sc) (m:Int) (b:List Int):Ce:=if gotE S m b = 0 then (rdCe b S.is.length S.ns.length (0,0)).1 else ce0
def gotN (S:Sc) (m:Int) (b:List Int):Nat:=if gotE S m b = 0 then (rdCe b S.is.length S.ns.length (0,0)).2.1 else 0
def GotP (w:World) (S:Sc) (m:Int) (b:List Int) (r:Ending) (w':World):Prop :=
 (∃ I M,r = .returned (.tuple #[CeV (gotC S m b) I M,.int .i64 (gotN S m b:Nat),.int .i64 (gotE S m b:Nat)]) ∧ CeM w' I M (gotC S m b)) ∧ Below w.heap.size w w'
theorem zq24 {w w':World} {S:Sc} {m:Int} {b:List Int} (e:Nat) (h:gotE S m b = e) (h0:e ≠ 0) (hb:Below w.heap.size w w'):GotP w S m b (.returned (.tuple #[CeV ce0 (.slice none 0 0) (.slice none 0 0),.int .i64 0,.int .i64 e])) w':=by
 have h1:gotE S m b ≠ 0:=by omega
 have h2:gotC S m b = ce0:=by unfold gotC; rw [if_neg h1]
 have h3:gotN S m b = 0:=by unfold gotN; rw [if_neg h1]
 exact ⟨⟨_,_,by rw [h2,h3,h]; rfl,by rw [h2]; exact zqio w'⟩,hb⟩
theorem zq1m {w w':World} {S:Sc} {m:Int} {b:List Int} {I M:Value} (h:gotE S m b = 0) (hm:CeM w' I M (rdCe b S.is.length S.ns.length (0,0)).1) (hb:Below w.heap.size w w'):GotP w S m b (.returned (.tuple #[CeV (rdCe b S.is.length S.ns.length (0,0)).1 I M,.int .i64 ((rdCe b S.is.length S.ns.length (0,0)).2.1:Nat),.int .i64 0])) w':=by
 have h2:gotC S m b = (rdCe b S.is.length S.ns.length (0,0)).1:=by unfold gotC; rw [if_pos h]
 have h3:gotN S m b = (rdCe b S.is.length S.ns.length (0,0)).2.1:=by unfold gotN; rw [if_pos h]
 exact ⟨⟨_,_,by rw [h2,h3,h]; rfl,by rw [h2]; exact hm⟩,hb⟩
theorem zq2c {w:World} {T R:Nat} {k n:Int} {I N:Value} {o:Obj} (h:w.heap[T]? = some o) (hne:T ≠ R):(set4 w R k n I N).heap[T]? = some o :=
 zqah (zqah (zqah (zqah h (zqad _ R 0 _) hne) (zqad _ R 1 _) hne) (zqad _ R 2 _) hne) (zqad _ R 3 _) hne
theorem zq0k {w:World} {R B:Nat} {k n k' n':Int} {I N I' N' P Q:Value} {c:Ce} (h:w.heap[R]? = some (.cells (boxV k n I N) 32 (0,0))) (ho:CeOwn w B P Q c):CeOwn (set4 w R k' n' I' N') B P Q c:=by
 have h1:=zqea (x:=k') h;have h2:=zqc5 (x:=n') h1;have h3:=zqb9 (u:=I') h2;exact (((ho.setbox h (by decide) (by decide) (by decide) (by decide)).setbox h1 (by decide) (by decide) (by decide) (by decide)).setbox h2 (by decide) (by decide) (by decide) (by decide)).setbox h3 (by decide) (by decide) (by decide) (by decide)
set_option maxHeartbeats 16000000 in
theorem zqsv (w:World) (D I M V v:Value) (S:Sc) (m:Int) (b:List Int) (h:Sch4 w D I M V S) (hw:SWf S) (hv:Ints .u8 w v b) (hb:Bt b) (hl:b.length ≤ 20000) (m0:0 ≤ m) (m1:m ≤ 4294967295) :
  Calls Tryz.prog 14 #[SchV D I M V,.int .u32 m,v] w (GotP w S m b):=by
 have hb1:=zqab w (SchO D I M V);have hb2:=zqab (w.alloc (SchO D I M V)) (.cells #[.int .u64 0,.int .i64 0,.slice none 0 0,.slice none 0 0] 32);have HB:=zh (zqaa hb1 hb2);have HX:=zh ((zqa6 w D I M V).below hb2);have hy:=heap_alloc_new (w.alloc (SchO D I M V)) (.cells #[.int .u64 0,.int .i64 0,.slice none 0 0,.slice none 0 0] 32);rw [World.size_alloc] at hy;have HR:=zh (show ((w.alloc (SchO D I M V)).alloc (.cells #[.int .u64 0,.int .i64 0,.slice none 0 0,.slice none 0 0] 32)).heap[w.heap.size + 1]? = some (.cells (boxV 0 0 (.slice none 0 0) (.slice none 0 0)) 32 (0,0)) from hy);have HK:=zh (fun w1 (hb:Below w.heap.size w w1) => zqoq w1 D I M V S m (h.below hb) hw m0 m1)
 have HNo:=zh (fun (w':World) (e:Nat) (he:gotE S m b = e ∧ e ≠ 0) (hb:Below w.heap.size w w') => zq24 (w:=w) (w':=w') e he.1 he.2 hb)
 by_cases hk:checkL S = 0 ∧ m ≤ fullL S.ds
 ·have hcn:=zqb0.1 (zqdh hk.1).1;have HNw:=zh (fun w1 (hb1:Below w.heap.size w w1) => zqvv v b w1 (hv.below hb1) hb hl)
  have HRd:=zh (fun w1 N (hb1:Below w.heap.size w w1) (hi:InAt w1 N b 0 0) => zqp4 w1 D I M V S N b (0,0) (h.below hb1) hi ⟨Nat.zero_le _,by decide⟩ hb (by omega))
  have hst:=(zqlo (b:=b) hb S.is.length S.ns.length (s:=(0,0)) ⟨Nat.zero_le _,by decide⟩).1
  have HFt:=zh (fun w1 N (hi:InAt w1 N b (rdCe b S.is.length S.ns.length (0,0)).2.1 (rdCe b S.is.length S.ns.length (0,0)).2.2) => zqyg w1 N b _ hi hst.2)
  have HV:=zh (fun w1 P Q (hb1:Below w.heap.size w w1) (hm:CeM w1 P Q (rdCe b S.is.length S.ns.length (0,0)).1) => zqxi w1 D I M V P Q S (keysL S.ds m S.ds.length) _ (h.below hb1) hm (zqkq hb _ _ _))
  have HRc:=zh (show rightC S m (rdCe b S.is.length S.ns.length (0,0)).1 = validC S (keysL S.ds m S.ds.length) (rdCe b S.is.length S.ns.length (0,0)).1 by unfold rightC; rw [decide_eq_true hk,Bool.true_and])
  have HE1:=zh (fun (h0:(rdCe b S.is.length S.ns.length (0,0)).2.2 ≠ 0) => show gotE S m b = (rdCe b S.is.length S.ns.length (0,0)).2.2 by unfold gotE; rw [if_pos hk,if_neg h0])
  have HE2:=zh (fun (h0:(rdCe b S.is.length S.ns.length (0,0)).2.2 = 0) (h1:validC S (keysL S.ds m S.ds.length) (rdCe b S.is.length S.ns.length (0,0)).1 = false) => show gotE S m b = 6 by unfold gotE; rw [if_pos hk,if_pos h0,HRc.out,h1]; rfl)
  have HE3:=zh (fun (h0:(rdCe b S.is.length S.ns.length (0,0)).2.2 = 0) (h1:validC S (keysL S.ds m S.ds.length) (rdCe b S.is.length S.ns.length (0,0)).1 = true) => show gotE S m b = 0 by unfold gotE; rw [if_pos hk,if_pos h0,HRc.out,h1]; rfl)
  have HYes:=zh (fun (w':World) (P Q:Value) (he:gotE S m b = 0) (hm:CeM w' P Q (rdCe b S.is.length S.ns.length (0,0)).1) (hb:Below w.heap.size w w') => zq1m (w:=w) he hm hb)
  have hle:=hst.1;rw [if_pos hk,decide_eq_true hk] at HK;obtain ⟨⟨a1,c1,rfl⟩,⟨a2,c2,rfl⟩,⟨a3,c3,rfl⟩,a4,c4,rfl⟩:=h.slices;obtain ⟨va,vc,rfl,-,-⟩:=hv;generalize hcr:rdCe b S.is.length S.ns.length (0,0) = cr at *;obtain ⟨c,p,e⟩:=cr;simp only at HRd HFt HV HE1 HE2 HE3 HYes hle;generalize validC S (keysL S.ds m S.ds.length) c = vd at *;generalize keysL S.ds m S.ds.length = ky at *;generalize hGE:gotE S m b = E at *;generalize GotP w S m b = GP at *;generalize S.is.length = ni at *;generalize S.ns.length = nn at *;generalize S.ds.length = nd at *;generalize S.vs.length = nvs at *;clear h hw hb hk hb1 hb2 hy HRc hst hcn hcr m0 m1;go_enter Tryz.func14,Tryz.ntmps14;go_upto_region 1 with fail;generalize (w.alloc (SchO (.slice a1 nd c1) (.slice a2 ni c2) (.slice a3 nn c3) (.slice a4 nvs c4))).alloc (.cells #[.int .u64 0,.int .i64 0,.slice none 0 0,.slice none 0 0] 32) = W0 at *;obtain ⟨x0,x1,x2,x3⟩:=HX.out.reads;go_wp2_with fail;refine (HK.out _ HB.out).mono ?_; rintro r w1 ⟨rfl,hb1⟩;have HB1:=zh (zqaa HB.out hb1);have HX1:=zh (HX.out.below hb1);have HR1:=zh ((hb1.block _ (Array.getElem?_eq_some_iff.1 HR.out).1).trans HR.out);clear hb1 x0 x1 x2 x3;go_wp2_with fail;refine (HNw.out _ HB1.out).mono ?_; rintro r w2 ⟨N,rfl,hN,hi2,hb2⟩;have HB2:=zh (zqaa HB1.out hb2);have HX2:=zh (HX1.out.below hb2);have HR2:=zh ((hb2.block _ (Array.getElem?_eq_some_iff.1 HR1.out).1).trans HR1.out);have HI2:=zh hi2;have hwN:w.heap.size + 1 < N:=by have:=(Array.getElem?_eq_some_iff.1 HR1.out).1; omega
  clear hi2 hb2 hN;obtain ⟨x0,x1,x2,x3⟩:=HX2.out.reads;go_wp2_with fail;refine (HRd.out _ _ HB2.out HI2.out).mono ?_; rintro r w3 ⟨⟨P,Q,rfl,ho⟩,hi3,hg3⟩;have HB3:=zh (below_grown HB2.out hg3 (by omega))
  have HX3:=zh (HX2.out.grown hg3 (by omega))
  have HR3:=zh (zqah HR2.out hg3 (by omega))
  obtain ⟨⟨pp,pk,rfl⟩,qp,qk,rfl⟩:=ho.slices;have HO:=zh (ho.low HB2.out.size);have HI3:=zh hi3;clear ho hi3 hg3 x0 x1 x2 x3;have HT:=zh (zqab w3 (.cells #[.int .u64 c.key,.int .i64 c.cnt,.slice pp c.is.length pk,.slice qp c.ns.length qk] 32));have HTc:=zh (show (w3.alloc (.cells #[.int .u64 c.key,.int .i64 c.cnt,.slice pp c.is.length pk,.slice qp c.ns.length qk] 32)).heap[w3.heap.size]? = some (.cells (boxV c.key c.cnt (.slice pp c.is.length pk) (.slice qp c.ns.length qk)) 32 (0,0)) from heap_alloc_new w3 _);go_upto_region 7 with fail;generalize w3.alloc (.cells #[.int .u64 c.key,.int .i64 c.cnt,.slice pp c.is.length pk,.slice qp c.ns.length qk] 32) = w4 at *;have HB4:=zh (zqaa HB3.out HT.out);have HX4:=zh (HX3.out.below HT.out);have HR4:=zh ((HT.out.block _ (Array.getElem?_eq_some_iff.1 HR3.out).1).trans HR3.out);have HO4:=zh (HO.out.below HT.out);have HI4:=zh (HI3.out.below HT.out);have hT:w.heap.size + 1 < w3.heap.size:=(Array.getElem?_eq_some_iff.1 HR3.out).1;generalize w3.heap.size = T at *;clear HT;go_wp2_with fail;refine (HFt.out _ _ HI4.out).mono ?_; rintro r w5 ⟨⟨q,rfl⟩,rfl⟩
  by_cases he:e = 0
  ·subst he;obtain ⟨x0,x1,x2,x3⟩:=HX4.out.reads;obtain ⟨⟨t0,t1,t2,t3⟩,-⟩:=zqac HTc.out;have HVc:=zh (HV.out _ _ _ HB4.out HO4.out.mem);go_wp2_with fail;refine (HVc.out).mono ?_; rintro r w6 ⟨rfl,hb6⟩;have HB6:=zh (zqaa HB4.out hb6);have HR6:=zh ((hb6.block _ (Array.getElem?_eq_some_iff.1 HR4.out).1).trans HR4.out);have HT6:=zh ((hb6.block _ (Array.getElem?_eq_some_iff.1 HTc.out).1).trans HTc.out);have HO6:=zh (HO4.out.below hb6);have HI6:=zh (HI4.out.below hb6);clear hb6 x0 x1 x2 x3 t0 t1 t2 t3;cases vd with
   | false =>
    have hE:=HE2.out (by trivial) (by trivial)
    obtain ⟨⟨r0,r1,r2,r3⟩,rf⟩:=zqac HR6.out;go_wp2_with fail;have hs4:=zqbg (k':=0) (n':=0) (I':=.slice none 0 0) (N':=.slice none 0 0) (HR6.out);have hbl:=zqa2 (R:=w.heap.size + 1) (k':=0) (n':=0) (I':=.slice none 0 0) (N':=.slice none 0 0) HB6.out (by omega)
    unfold set4 at hs4 hbl;generalize (((w6.setCell ⟨w.heap.size + 1,0,none⟩ (.int .u64 0)).setCell ⟨w.heap.size + 1,1,none⟩ (.int .i64 0)).setCell ⟨w.heap.size + 1,2,none⟩ (.slice none 0 0)).setCell ⟨w.heap.size + 1,3,none⟩ (.slice none 0 0) = W4 at *;obtain ⟨⟨s0,s1,s2,s3⟩,-⟩:=zqac hs4;exact bodyPost_ret (v:=.tuple #[CeV ce0 (.slice none 0 0) (.slice none 0 0),.int .i64 0,.int .i64 6]) (by simp [results,Tryz.results14,go_sem,ce0,s0,s1,s2,s3]) rfl (HNo.out _ _ (by exact ⟨hE,by decide⟩) hbl)
   | true =>
    have hE:=HE3.out (by trivial) (by trivial)
    have HL:=zh (fun w1 (hi:InAt w1 N b p 0) => zqy8 w1 N b p hi)
    have i5:IntKind.i64.wrap ((b.length:Int) - ((b.length - p:Nat):Int)) = (p:Int):=by rw [IntWalk.i64_in _ (by omega)]; omega
    have i6:wrap64 ((b.length:Int) - ((b.length - p:Nat):Int)) = (p:Int):=by rw [wrap64_in (by omega) (by omega)]; omega
    go_upto_region 12 with fail;obtain ⟨hk0,-⟩:=zqac HT6.out;have hk:w6.drew.cell? ⟨T,0,none⟩ = some (.int .u64 c.key) ∧ w6.drew.cell? ⟨T,1,none⟩ = some (.int .i64 c.cnt) ∧ w6.drew.cell? ⟨T,2,none⟩ = some (.slice pp c.is.length pk) ∧ w6.drew.cell? ⟨T,3,none⟩ = some (.slice qp c.ns.length qk):=hk0;have hB:Below w6.heap.size w6 w6.drew:=(Below.refl _ _).drew;clear hk0;refine wp_region_held_drew (S:=fun w' => w'.cell? ⟨T,0,none⟩ = some (.int .u64 c.key) ∧ w'.cell? ⟨T,1,none⟩ = some (.int .i64 c.cnt) ∧ w'.cell? ⟨T,2,none⟩ = some (.slice pp c.is.length pk) ∧ w'.cell? ⟨T,3,none⟩ = some (.slice qp c.ns.length qk)) (by kernel_rfl) hk (fun _ => ?_)
    refine tkA 0 53 (.agg #[.int .u64 c.key,.int .i64 c.cnt,.slice pp c.is.length pk,.slice qp c.ns.length qk]) rfl hk ?_;try simp only [pS]
    refine tkA 1 54 (.slice va b.length vc) rfl hk ?_;try simp only [pS]
    refine tkA 2 55 (.int .i64 b.length) rfl hk ?_;try simp only [pS]
    refine tkA 3 56 (.pointer (some ⟨N,0,none⟩)) rfl hk ?_;try simp only [pS]
    refine wpAnyH_ready (rs:=[4]) (by kernel_rfl) (by simp) (AllReadyH.cons rfl (fun K' hK => ?_) AllReadyH.nil)
    rw [if_pos (by kernel_rfl)]
    go_simp;go_at_call 56;refine (HL.out _ (HI6.out.below hB)).mono ?_; rintro r w7 ⟨rfl,hb⟩;replace hB:=zqaa hB hb;have HB7:=zh (zqaa HB6.out hB);have HR7:=zh ((hB.block _ (Array.getElem?_eq_some_iff.1 HR6.out).1).trans HR6.out);have HT7:=zh ((hB.block _ (Array.getElem?_eq_some_iff.1 HT6.out).1).trans HT6.out);have HO7:=zh (HO6.out.below hB);replace hk:=(zqac HT7.out).1;clear hb hB;refine hK.out _ _ hk (fun _ => ?_)
    try simp only [pS]
    clear hK;refine tkA 5 58 (.int .i64 (p:Nat)) rfl hk ?_;try simp only [pS]
    obtain ⟨⟨r0,r1,r2,r3⟩,rf⟩:=zqac HR7.out;refine wpAnyH_ready (rs:=[6]) (by kernel_rfl) (by simp) (AllReadyH.cons rfl (fun K' hK => ?_) AllReadyH.nil)
    rw [if_pos (by kernel_rfl)]
    go_simp;have hs4:=zqbg (k':=c.key) (n':=c.cnt) (I':=.slice pp c.is.length pk) (N':=.slice qp c.ns.length qk) HR7.out;have hbl:=zqa2 (R:=w.heap.size + 1) (k':=c.key) (n':=c.cnt) (I':=.slice pp c.is.length pk) (N':=.slice qp c.ns.length qk) HB7.out (by omega)
    have hT9:=zq2c (R:=w.heap.size + 1) (k:=c.key) (n:=c.cnt) (I:=.slice pp c.is.length pk) (N:=.slice qp c.ns.length qk) HT7.out (by omega)
    have hO9:=zq0k (k':=c.key) (n':=c.cnt) (I':=.slice pp c.is.length pk) (N':=.slice qp c.ns.length qk) HR7.out HO7.out;unfold set4 at hs4 hbl hT9 hO9;replace hk:=(zqac hT9).1;clear r0 r1 r2 r3 rf;refine hK.out _ _ hk (fun _ => ?_)
    try simp only [pS]
    clear hK;generalize (((w7.setCell ⟨w.heap.size + 1,0,none⟩ (.int .u64 c.key)).setCell ⟨w.heap.size + 1,1,none⟩ (.int .i64 c.cnt)).setCell ⟨w.heap.size + 1,2,none⟩ (.slice pp c.is.length pk)).setCell ⟨w.heap.size + 1,3,none⟩ (.slice qp c.ns.length qk) = W9 at *;refine tkA 7 7 (.int .i64 (p:Nat)) rfl hk ?_;try simp only [pS]
    refine tkA 8 8 (.int .i64 0) rfl hk ?_;try simp only [pS]
    refine wpAnyH_done (by kernel_rfl) ?_ _
    clear hk hT9;obtain ⟨⟨s0,s1,s2,s3⟩,-⟩:=zqac hs4;go_wp2_with fail;exact bodyPost_ret (v:=.tuple #[CeV c (.slice pp c.is.length pk) (.slice qp c.ns.length qk),.int .i64 (p:Nat),.int .i64 0]) (by simp [results,Tryz.results14,go_sem,s0,s1,s2,s3]) rfl (HYes.out _ _ _ hE hO9.mem hbl)
  ·have hE:=HE1.out he;have he2:((e:Int) != 0) = true:=by simp; omega
   obtain ⟨⟨r0,r1,r2,r3⟩,rf⟩:=zqac HR4.out;go_wp2_with fail;have hs4:=zqbg (k':=0) (n':=0) (I':=.slice none 0 0) (N':=.slice none 0 0) (HR4.out);have hbl:=zqa2 (R:=w.heap.size + 1) (k':=0) (n':=0) (I':=.slice none 0 0) (N':=.slice none 0 0) HB4.out (by omega)
   unfold set4 at hs4 hbl;generalize (((w4.setCell ⟨w.heap.size + 1,0,none⟩ (.int .u64 0)).setCell ⟨w.heap.size + 1,1,none⟩ (.int .i64 0)).setCell ⟨w.heap.size + 1,2,none⟩ (.slice none 0 0)).setCell ⟨w.heap.size + 1,3,none⟩ (.slice none 0 0) = W4 at *;obtain ⟨⟨s0,s1,s2,s3⟩,-⟩:=zqac hs4;exact bodyPost_ret (v:=.tuple #[CeV ce0 (.slice none 0 0) (.slice none 0 0),.int .i64 0,.int .i64 e]) (by simp [results,Tryz.results14,go_sem,ce0,s0,s1,s2,s3]) rfl (HNo.out _ _ (by exact ⟨hE,he⟩) hbl)
 ·have HC:=zh (fun w1 (hb1:Below w.heap.size w w1) => zquc w1 D I M V S m 0 (h.below hb1) hw m0 m1 (by decide) (by decide))
  have hE:gotE S m b = codE S m 0:=by unfold gotE; rw [if_neg hk]
  have hE0:codE S m 0 ≠ 0:=by
   unfold codE numE
   by_cases h1:checkL S = 0
   ·have h2:¬ m ≤ fullL S.ds:=fun h2 => hk ⟨h1,h2⟩
    rw [if_pos h1,if_neg h2]; simp
   ·rw [if_neg h1]; simp
  rw [if_neg hk,decide_eq_false hk] at HK;unfold CodesR at HC;obtain ⟨⟨a1,c1,rfl⟩,⟨a2,c2,rfl⟩,⟨a3,c3,rfl⟩,a4,c4,rfl⟩:=h.slices;obtain ⟨va,vc,rfl,-,-⟩:=hv;rw [hE] at HNo;generalize codE S m 0 = ce at *;generalize GotP w S m b = GP at *;generalize S.is.length = ni at *;generalize S.ns.length = nn at *;generalize S.ds.length = nd at *;generalize S.vs.length = nvs at *;clear h hw hb hk hb1 hb2 hy m0 m1 hE;go_enter Tryz.func14,Tryz.ntmps14;go_upto_region 1 with fail;generalize (w.alloc (SchO (.slice a1 nd c1) (.slice a2 ni c2) (.slice a3 nn c3) (.slice a4 nvs c4))).alloc (.cells #[.int .u64 0,.int .i64 0,.slice none 0 0,.slice none 0 0] 32) = W0 at *;obtain ⟨x0,x1,x2,x3⟩:=HX.out.reads;go_wp2_with fail;refine (HK.out _ HB.out).mono ?_; rintro r w1 ⟨rfl,hb1⟩;have HB1:=zh (zqaa HB.out hb1);have HX1:=zh (HX.out.below hb1);have HR1:=zh ((hb1.block _ (Array.getElem?_eq_some_iff.1 HR.out).1).trans HR.out);clear hb1 x0 x1 x2 x3;obtain ⟨x0,x1,x2,x3⟩:=HX1.out.reads;go_wp2_with fail;refine (HC.out _ HB1.out).mono ?_; rintro r w2 ⟨⟨u,rfl,ho⟩,hb2⟩;have HB2:=zh (zqaa HB1.out hb2);have HR2:=zh ((hb2.block _ (Array.getElem?_eq_some_iff.1 HR1.out).1).trans HR1.out);obtain ⟨ua,ul,rfl⟩:=zqai ho;clear hb2 ho x0 x1 x2 x3;obtain ⟨⟨r0,r1,r2,r3⟩,rf⟩:=zqac HR2.out;go_wp2_with fail;have hs4:=zqbg (k':=0) (n':=0) (I':=.slice none 0 0) (N':=.slice none 0 0) (HR2.out);have hbl:=zqa2 (R:=w.heap.size + 1) (k':=0) (n':=0) (I':=.slice none 0 0) (N':=.slice none 0 0) HB2.out (by omega)
  unfold set4 at hs4 hbl;generalize (((w2.setCell ⟨w.heap.size + 1,0,none⟩ (.int .u64 0)).setCell ⟨w.heap.size + 1,1,none⟩ (.int .i64 0)).setCell ⟨w.heap.size + 1,2,none⟩ (.slice none 0 0)).setCell ⟨w.heap.size + 1,3,none⟩ (.slice none 0 0) = W4 at *;obtain ⟨⟨s0,s1,s2,s3⟩,-⟩:=zqac hs4;exact bodyPost_ret (v:=.tuple #[CeV ce0 (.slice none 0 0) (.slice none 0 0),.int .i64 0,.int .i64 ce]) (by simp [results,Tryz.results14,go_sem,ce0,s0,s1,s2,s3]) rfl (HNo.out _ _ (by exact ⟨rfl,hE0⟩) hbl)
theorem zqtu (w:World) (N:Nat) (v:Value) (b:List Int) (s:Nat × Nat) (u i m:Int) (f:Nat) (t:ByteArray) (h:R3 w N v s.1 s.2) (hv:Ints .u8 w v b) (hb:Bt b) (hl:b.length ≤ 20000) (hs:OkSt b s) :
  Calls Tryz.prog 126 #[.pointer (some ⟨N,0,none⟩),askV 2 u i f t m] w fun r w' => (∃ n e:Nat,r = .returned (gotV (keyK b s) 0 ⟨#[]⟩ n e) ∧ (n = 0 → (stF b s).1 = 0) ∧ (n ≠ 0 → (stF b s).2.2 = 0)) ∧ R3 w' N v (stF b s).2.1 (stF b s).2.2 ∧ w.grownBy w' (some N):=by
 obtain ⟨p,e⟩:=s;have hp:p ≤ b.length:=hs.1;simp only at h;unfold stF keyK
 by_cases he:e = 0
 ·subst he;rw [if_pos rfl,if_pos rfl];simp only;have hle:(fN (getF (b.drop p))).2.1 ≤ 20000:=by unfold fN; split <;> simp
  refine (zqim w N v b p 2 u i m f t (fN (getF (b.drop p))).1 0 ⟨#[]⟩ (fN (getF (b.drop p))).2.1 (fN (getF (b.drop p))).2.2 h hv hp hl hle
   (fun w1 v2 hb1 hi => zqz7 w1 v2 (b.drop p) u i m f t hi (hb.drop p) (by rw [List.length_drop]; omega))).mono ?_
  rintro r w1 ⟨rfl,hr,hg⟩;have hn:((fN (getF (b.drop p))).2.1 = 0 → (getF (b.drop p)).2 ≠ 0) ∧ ((fN (getF (b.drop p))).2.1 ≠ 0 → (getF (b.drop p)).2 = 0):=by
   unfold fN
   split
   ·rename_i q; exact ⟨fun z => absurd z (by simp),fun _ => q⟩
   ·rename_i q; exact ⟨fun _ => q,fun z => absurd rfl z⟩
  refine ⟨⟨_,_,rfl,fun z => if_neg (hn.1 z),hn.2⟩,?_,hg⟩
  unfold fN at hr
  split at hr
  ·rename_i q;rw [if_pos q,q]; exact hr
  ·rename_i q;rw [if_neg q]; exact hr
 ·rw [if_neg he,if_neg he];simp only;refine (zqj1 w N v p e 2 u i m f t h he).mono ?_;rintro r w1 ⟨rfl,hb1⟩;exact ⟨⟨0,0,rfl,fun _ => by trivial,fun z => absurd rfl z⟩,h.below hb1,zqaf hb1 _⟩
set_option maxHeartbeats 2000000 in
theorem zqia (w:World) (N:Nat) (v:Value) (b:List Int) (s:Nat × Nat) (h:R3 w N v s.1 s.2) (hv:Ints .u8 w v b) (hb:Bt b) (hl:b.length ≤ 20000) (hs:OkSt b s) :
  Calls Tryz.prog 127 #[.pointer (some ⟨N,0,none⟩)] w fun r w' => (∃ x:Nat,r = .returned (.float .f64 x) ∧ W64 x ∧ keyI x = keyI (stF b s).1) ∧ R3 w' N v (stF b s).2.1 (stF b s).2.2 ∧ w.grownBy w' (some N):=by
 have HA:=zh (zqtu w N v b s 0 0 0 0 ⟨#[]⟩ h hv hb hl hs);have HK:=zh (fun h => zq3l (b:=b) (s:=s) h)
 have HFl:=zh (fun w1 (hk:Keyed (keyK b s)) => zquu w1 (keyK b s) hk)
 unfold FloatP at HFl;generalize (stF b s).1 = x at *;generalize (stF b s).2 = s2 at *;generalize keyK b s = K at *;clear h hv hb hs;go_enter Tryz.func127,Tryz.ntmps127;go_wp2_with fail;refine HA.out.mono ?_;rintro r w1 ⟨⟨n,e,rfl,h0,h1⟩,h2,h3⟩;have hbl:=zqab w1 (gotO K 0 ⟨#[]⟩ n e);have HR:=zh (And.intro (h2.below hbl) (zqag h3 (zqaf hbl (some N))));have HX:=zh (row5 (heap_alloc_new w1 (gotO K 0 ⟨#[]⟩ n e)));clear h2 h3 hbl HA;go_upto_region 2 with fail;generalize w1.alloc (.cells #[.int .u64 K,.int .i64 0,.string ⟨#[]⟩,.int .i64 (n:Int),.int .i64 (e:Int)] 186) = W1 at *;obtain ⟨e0,e1,e2,e3,e4⟩:=HX.out
 by_cases hn:n = 0
 ·have HZ:=zh (h0 hn);subst hn;clear h0 h1 HFl HK;go_wp2_with fail;go_ret;exact ⟨⟨0,rfl,by unfold W64; decide,by rw [HZ.out]⟩,HR.out.1,HR.out.2⟩
 ·have hk:=HK.out (h1 hn);have HF:=zh (HFl.out W1 hk.1);have HE:=zh hk.2;have hnb:((n:Int) == 0) = false:=by rw [beq_eq_false_iff_ne]; omega
  clear h0 h1 HFl HK hk hn;go_wp2_with fail;refine HF.out.mono ?_;rintro r w2 ⟨⟨y,rfl,hy,hyk⟩,hb2⟩;have HQ:=zh (And.intro hy (And.intro (hyk.trans HE.out.symm) hb2));clear hy hyk hb2;go_wp2_with fail;go_ret;exact ⟨⟨y,rfl,HQ.out.1,HQ.out.2.1⟩,HR.out.1.below HQ.out.2.2,zqag HR.out.2 (zqaf HQ.out.2.2 _)⟩
end Go.Proofs.YtpgchfihedcdkaaGreatDoor
