/- Contracts that the law leans on: Agon Scib. -/
import Derived.Test.YtpgchfihedcdkaaGreatDoorGt02
import Derived.Test.YtpgchfihedcdkaaGreatDoorGt26
import Derived.Test.YtpgchfihedcdkaaGreatDoorGt29
import Derived.Test.YtpgchfihedcdkaaGreatDoorGt35
import Derived.Test.YtpgchfihedcdkaaGreatDoorGt36
import Derived.Test.YtpgchfihedcdkaaGreatDoorGt37
namespace Go.Proofs.YtpgchfihedcdkaaGreatDoor
set_option maxRecDepth 100000
open Go.RowKit
set_option linter.unusedVariables false
theorem LikeR.right {x y:Re} (h:LikeR x y):rightR y = rightR x:=by
 unfold rightR lessB;rw [h.sum,h.mn,h.mx]
theorem LikeR.same {x y:Re} (h:LikeR x y):sameRe x y = true:=by
 unfold sameRe sameB;rw [h.sum,h.mn,h.mx];simp
theorem LikeC.allR {c d:Ce} (h:LikeC c d):allR d.ns = allR c.ns:=by
 by_cases ha:∀ k,k < c.ns.length → rightR (rg c.ns k) = true
 ·rw [zqgl ha];exact zqgl fun k hk => by
   rw [h.len] at hk;rw [(h.ns k hk).right]; exact ha k hk
 ·obtain ⟨k,hk,hr⟩:∃ k,k < c.ns.length ∧ rightR (rg c.ns k) = false:=by
   by_cases hh:∃ k,k < c.ns.length ∧ rightR (rg c.ns k) = false
   ·exact hh
   ·exact absurd (fun k hk => by
     cases e:rightR (rg c.ns k) with
     | true => rfl
     | false => exact absurd ⟨k,hk,e⟩ hh) ha
  rw [zqf7 hk hr];exact zqf7 (k:=k) (by rw [h.len]; exact hk) (by rw [(h.ns k hk).right]; exact hr)
theorem LikeC.right {S:Sc} {m:Int} {c d:Ce} (h:LikeC c d):rightC S m d = rightC S m c:=by
 unfold rightC validC;rw [h.allR,h.key,h.cnt,h.is,h.len]
theorem LikeC.same {c d:Ce} (h:LikeC c d):sameC c d = true :=
 same_iff.2 ⟨h.key.symm,h.cnt.symm,by rw [h.is],h.len.symm,fun k _ => by rw [h.is]; simp [sameWh],fun k hk => (h.ns k hk).same⟩
theorem LikeC.w {c d:Ce} (h:LikeC c d) (hc:CeW c):CeW d where
 key:=by rw [h.key]; exact hc.key
 cnt:=by rw [h.cnt]; exact hc.cnt
 is:=by rw [h.is]; exact hc.is
 ns:=fun x hx => by
  obtain ⟨k,hk,rfl⟩:=List.getElem_of_mem hx;have hk2:k < c.ns.length:=by rw [← h.len]; exact hk
  have h1:=h.ns k hk2;have h2:=hc.rg hk2;rw [zqa3 hk] at h1;exact ⟨by rw [h1.sum]; exact h2.sum,by rw [h1.sum]; exact h2.len,h1.w1,h1.w2⟩
theorem LikeC.zero:LikeC ce0 ce0:=⟨rfl,rfl,rfl,rfl,fun k hk => by cases hk⟩
def GotQ (w:World) (S:Sc) (m:Int) (b:List Int) (r:Ending) (w':World):Prop :=
 (∃ d I M,r = .returned (.tuple #[CeV d I M,.int .i64 (gotN S m b:Nat),.int .i64 (gotE S m b:Nat)]) ∧ CeM w' I M d ∧ LikeC (gotC S m b) d) ∧ Below w.heap.size w w'
theorem zq1n {w w':World} {S:Sc} {m:Int} {b:List Int} (e:Nat) (h:gotE S m b = e) (h0:e ≠ 0) (hb:Below w.heap.size w w'):GotQ w S m b (.returned (.tuple #[CeV ce0 (.slice none 0 0) (.slice none 0 0),.int .i64 0,.int .i64 e])) w':=by
 have h1:gotE S m b ≠ 0:=by omega
 have h2:gotC S m b = ce0:=by unfold gotC; rw [if_neg h1]
 have h3:gotN S m b = 0:=by unfold gotN; rw [if_neg h1]
 exact ⟨⟨_,_,_,by rw [h3,h]; rfl,zqio w',by rw [h2]; exact LikeC.zero⟩,hb⟩
theorem zqyq {w w':World} {S:Sc} {m:Int} {b:List Int} {d:Ce} {I M:Value} (h:gotE S m b = 0) (hm:CeM w' I M d) (hd:LikeC (rdCe b S.is.length S.ns.length (0,0)).1 d) (hb:Below w.heap.size w w'):GotQ w S m b (.returned (.tuple #[CeV d I M,.int .i64 ((rdCe b S.is.length S.ns.length (0,0)).2.1:Nat),.int .i64 0])) w':=by
 have h2:gotC S m b = (rdCe b S.is.length S.ns.length (0,0)).1:=by unfold gotC; rw [if_pos h]
 have h3:gotN S m b = (rdCe b S.is.length S.ns.length (0,0)).2.1:=by unfold gotN; rw [if_pos h]
 exact ⟨⟨_,_,_,by rw [h3,h]; rfl,hm,by rw [h2]; exact hd⟩,hb⟩
theorem zqw4 {w:World} {R B:Nat} {k n k' n':Int} {I N I' N' P Q:Value} {c:Ce} (h:w.heap[R]? = some (.cells (boxV k n I N) 32 (0,0))) (ho:CeOwT w B P Q c):CeOwT (set4 w R k' n' I' N') B P Q c:=by
 have h1:=zqea (x:=k') h;have h2:=zqc5 (x:=n') h1;have h3:=zqb9 (u:=I') h2;exact (((ho.setbox h (by decide) (by decide) (by decide) (by decide)).setbox h1 (by decide) (by decide) (by decide) (by decide)).setbox h2 (by decide) (by decide) (by decide) (by decide)).setbox h3 (by decide) (by decide) (by decide) (by decide)
set_option maxHeartbeats 16000000 in
theorem zqs5 (w:World) (D I M V v:Value) (S:Sc) (m:Int) (b:List Int) (h:Sch4 w D I M V S) (hw:SWf S) (hv:Ints .u8 w v b) (hb:Bt b) (hl:b.length ≤ 20000) (m0:0 ≤ m) (m1:m ≤ 4294967295) :
  Calls Tryz.prog 17 #[SchV D I M V,.int .u32 m,v] w (GotQ w S m b):=by
 have hb1:=zqab w (SchO D I M V);have hb2:=zqab (w.alloc (SchO D I M V)) (.cells #[.int .u64 0,.int .i64 0,.slice none 0 0,.slice none 0 0] 32);have HB:=zh (zqaa hb1 hb2);have HX:=zh ((zqa6 w D I M V).below hb2);have hy:=heap_alloc_new (w.alloc (SchO D I M V)) (.cells #[.int .u64 0,.int .i64 0,.slice none 0 0,.slice none 0 0] 32);rw [World.size_alloc] at hy;have HR:=zh (show ((w.alloc (SchO D I M V)).alloc (.cells #[.int .u64 0,.int .i64 0,.slice none 0 0,.slice none 0 0] 32)).heap[w.heap.size + 1]? = some (.cells (boxV 0 0 (.slice none 0 0) (.slice none 0 0)) 32 (0,0)) from hy);have HCk:=zh (fun w1 (hb:Below w.heap.size w w1) => zqkp w1 D I M V S (h.below hb) hw)
 have HNo:=zh (fun (w':World) (e:Nat) (he:gotE S m b = e ∧ e ≠ 0) (hb:Below w.heap.size w w') => zq1n (w:=w) (w':=w') e he.1 he.2 hb)
 by_cases hc0:checkL S = 0
 ·have hcn:=zqb0.1 (zqdh hc0).1;have HFu:=zh (fun w1 (hb:Below w.heap.size w w1) => zqmy w1 D I M V S (h.below hb) hcn.2.1)
  have HSu:=zh (fun w1 => zqjt w1 m S.ds.length hcn.2.1 m0 m1)
  unfold fullL at HFu;rw [hc0] at HCk
  by_cases hm:m < 2 ^ S.ds.length
  ·have hk:checkL S = 0 ∧ m ≤ fullL S.ds:=⟨hc0,by unfold fullL; omega⟩
   have hst:=(zqlo (b:=b) hb S.is.length S.ns.length (s:=(0,0)) ⟨Nat.zero_le _,by decide⟩).1
   have HRd:=zh (fun w1 N (hb1:Below w.heap.size w w1) (hN:w.heap.size ≤ N) (hi:R3 w1 N v 0 0) => zqp6 w w1 D I M V v S N b (0,0) (h.below hb1) hi hb1 hN hv hb hl ⟨Nat.zero_le _,by decide⟩ (by omega))
   have HV:=zh (fun w1 P Q d (hb1:Below w.heap.size w w1) (hm:CeM w1 P Q d) (hd:LikeC (rdCe b S.is.length S.ns.length (0,0)).1 d) => zqo5 w1 D I M V P Q S m d (h.below hb1) hw hm (hd.w (zqkq hb _ _ _)) m0 m1)
   have HRl:=zh (fun d (hd:LikeC (rdCe b S.is.length S.ns.length (0,0)).1 d) => hd.right (S:=S) (m:=m))
   have HE1:=zh (fun (h0:(rdCe b S.is.length S.ns.length (0,0)).2.2 ≠ 0) => show gotE S m b = (rdCe b S.is.length S.ns.length (0,0)).2.2 by unfold gotE; rw [if_pos hk,if_neg h0])
   have HE2:=zh (fun (h0:(rdCe b S.is.length S.ns.length (0,0)).2.2 = 0) (h1:rightC S m (rdCe b S.is.length S.ns.length (0,0)).1 = false) => show gotE S m b = 6 by unfold gotE; rw [if_pos hk,if_pos h0,h1]; rfl)
   have HE3:=zh (fun (h0:(rdCe b S.is.length S.ns.length (0,0)).2.2 = 0) (h1:rightC S m (rdCe b S.is.length S.ns.length (0,0)).1 = true) => show gotE S m b = 0 by unfold gotE; rw [if_pos hk,if_pos h0,h1]; rfl)
   have HYes:=zh (fun (w':World) (P Q:Value) (d:Ce) (he:gotE S m b = 0) (hm:CeM w' P Q d) (hd:LikeC (rdCe b S.is.length S.ns.length (0,0)).1 d) (hb:Below w.heap.size w w') => zqyq (w:=w) he hm hd hb)
   have hle:=hst.1;rw [decide_eq_true hm] at HSu;obtain ⟨⟨a1,c1,rfl⟩,⟨a2,c2,rfl⟩,⟨a3,c3,rfl⟩,a4,c4,rfl⟩:=h.slices;obtain ⟨va,vc,rfl,-,-⟩:=hv;generalize hcr:rdCe b S.is.length S.ns.length (0,0) = cr at *;obtain ⟨c,p,e⟩:=cr;simp only at HRd HV HE1 HE2 HE3 HYes HRl hle;generalize rightC S m c = vd at *;generalize hGE:gotE S m b = E at *;generalize GotQ w S m b = GP at *;generalize (2:Int) ^ S.ds.length - 1 = FU at *;generalize S.is.length = ni at *;generalize S.ns.length = nn at *;generalize S.ds.length = nd at *;generalize S.vs.length = nvs at *;clear h hw hb hk hb1 hb2 hy hst hcn hcr m0 m1 hm hc0;go_enter Tryz.func17,Tryz.ntmps17;go_upto_region 1 with fail;generalize (w.alloc (SchO (.slice a1 nd c1) (.slice a2 ni c2) (.slice a3 nn c3) (.slice a4 nvs c4))).alloc (.cells #[.int .u64 0,.int .i64 0,.slice none 0 0,.slice none 0 0] 32) = W0 at *;obtain ⟨x0,x1,x2,x3⟩:=HX.out.reads;go_wp2_with fail;refine (HCk.out _ HB.out).mono ?_; rintro r w1 ⟨rfl,hb1⟩;have HB1:=zh (zqaa HB.out hb1);have HX1:=zh (HX.out.below hb1);have HR1:=zh ((hb1.block _ (Array.getElem?_eq_some_iff.1 HR.out).1).trans HR.out);clear hb1 x0 x1 x2 x3;obtain ⟨x0,x1,x2,x3⟩:=HX1.out.reads;go_wp2_with fail;refine (HFu.out _ HB1.out).mono ?_; rintro r w2 ⟨rfl,hb1⟩;have HB2:=zh (zqaa HB1.out hb1);have HX2:=zh (HX1.out.below hb1);have HR2:=zh ((hb1.block _ (Array.getElem?_eq_some_iff.1 HR1.out).1).trans HR1.out);clear hb1 x0 x1 x2 x3;go_wp2_with fail;refine (HSu.out _).mono ?_; rintro r w2' ⟨rfl,rfl⟩;have HN:=zh (show R3 (w2.alloc (.cells #[.slice va b.length vc,.int .i64 0,.int .i64 0] 120)) w2.heap.size (.slice va b.length vc) 0 0 from heap_alloc_new w2 _);have hb3:=zqab w2 (.cells #[.slice va b.length vc,.int .i64 0,.int .i64 0] 120);go_upto_region 6 with fail;generalize w2.alloc (.cells #[.slice va b.length vc,.int .i64 0,.int .i64 0] 120) = w3 at *;have HB3:=zh (zqaa HB2.out hb3);have HX3:=zh (HX2.out.below hb3);have HR3:=zh ((hb3.block _ (Array.getElem?_eq_some_iff.1 HR2.out).1).trans HR2.out);have hwN:w.heap.size + 1 < w2.heap.size:=(Array.getElem?_eq_some_iff.1 HR2.out).1;generalize w2.heap.size = N at *;clear hb3;obtain ⟨x0,x1,x2,x3⟩:=HX3.out.reads;go_wp2_with fail;refine (HRd.out _ _ HB3.out (by omega) HN.out).mono ?_; rintro r w4 ⟨⟨d,P,Q,rfl,ho,hd⟩,hi4,hg4⟩
   have HB4:=zh (below_grown HB3.out hg4 (by omega))
   have HX4:=zh (HX3.out.grown hg4 (by omega))
   have HR4:=zh (zqah HR3.out hg4 (by omega))
   obtain ⟨⟨pp,pk,rfl⟩,qp,qk,rfl⟩:=ho.mem.slices;have HO:=zh (ho.low HB3.out.size);have HI4:=zh hi4;have HD:=zh hd;clear ho hi4 hg4 hd x0 x1 x2 x3;have HT:=zh (zqab w4 (.cells #[.int .u64 d.key,.int .i64 d.cnt,.slice pp d.is.length pk,.slice qp d.ns.length qk] 32));have HTc:=zh (show (w4.alloc (.cells #[.int .u64 d.key,.int .i64 d.cnt,.slice pp d.is.length pk,.slice qp d.ns.length qk] 32)).heap[w4.heap.size]? = some (.cells (boxV d.key d.cnt (.slice pp d.is.length pk) (.slice qp d.ns.length qk)) 32 (0,0)) from heap_alloc_new w4 _);go_upto_region 7 with fail;generalize w4.alloc (.cells #[.int .u64 d.key,.int .i64 d.cnt,.slice pp d.is.length pk,.slice qp d.ns.length qk] 32) = w5 at *;have HB5:=zh (zqaa HB4.out HT.out);have HX5:=zh (HX4.out.below HT.out);have HR5:=zh ((HT.out.block _ (Array.getElem?_eq_some_iff.1 HR4.out).1).trans HR4.out);have HO5:=zh (HO.out.below HT.out);have HI5:=zh (HI4.out.below HT.out);have hT:w.heap.size + 1 < w4.heap.size:=(Array.getElem?_eq_some_iff.1 HR4.out).1;generalize w4.heap.size = T at *;clear HT;obtain ⟨n0,n1,n2⟩:=HI5.out.reads;obtain ⟨⟨r0,r1,r2,r3⟩,rf⟩:=zqac HR5.out
   by_cases he:e = 0
   ·subst he;have HRc:=zh (HRl.out _ HD.out);obtain ⟨x0,x1,x2,x3⟩:=HX5.out.reads;obtain ⟨⟨t0,t1,t2,t3⟩,-⟩:=zqac HTc.out;have HVc:=zh (HV.out _ _ _ _ HB5.out HO5.out.mem HD.out);rw [HRc.out] at HVc;go_wp2_with fail;refine (HVc.out).mono ?_; rintro r w6 ⟨rfl,hb6⟩;have HB6:=zh (zqaa HB5.out hb6);have HR6:=zh ((hb6.block _ (Array.getElem?_eq_some_iff.1 HR5.out).1).trans HR5.out);have HT6:=zh ((hb6.block _ (Array.getElem?_eq_some_iff.1 HTc.out).1).trans HTc.out);have HO6:=zh (HO5.out.below hb6);have HI6:=zh (HI5.out.below hb6);clear hb6 x0 x1 x2 x3 t0 t1 t2 t3 n0 n1 n2 r0 r1 r2 r3 rf;cases vd with
    | false =>
     have hE:=HE2.out (by trivial) (by trivial)
     obtain ⟨⟨r0,r1,r2,r3⟩,rf⟩:=zqac HR6.out;go_wp2_with fail;have hs4:=zqbg (k':=0) (n':=0) (I':=.slice none 0 0) (N':=.slice none 0 0) (HR6.out);have hbl:=zqa2 (R:=w.heap.size + 1) (k':=0) (n':=0) (I':=.slice none 0 0) (N':=.slice none 0 0) HB6.out (by omega)
     unfold set4 at hs4 hbl;generalize (((w6.setCell ⟨w.heap.size + 1,0,none⟩ (.int .u64 0)).setCell ⟨w.heap.size + 1,1,none⟩ (.int .i64 0)).setCell ⟨w.heap.size + 1,2,none⟩ (.slice none 0 0)).setCell ⟨w.heap.size + 1,3,none⟩ (.slice none 0 0) = W4 at *;obtain ⟨⟨s0,s1,s2,s3⟩,-⟩:=zqac hs4;exact bodyPost_ret (v:=.tuple #[CeV ce0 (.slice none 0 0) (.slice none 0 0),.int .i64 0,.int .i64 6]) (by simp [results,Tryz.results17,go_sem,ce0,s0,s1,s2,s3]) rfl (HNo.out _ _ (by exact ⟨hE,by decide⟩) hbl)
    | true =>
     have hE:=HE3.out (by trivial) (by trivial)
     obtain ⟨⟨r0,r1,r2,r3⟩,rf⟩:=zqac HR6.out;obtain ⟨⟨t0,t1,t2,t3⟩,-⟩:=zqac HT6.out;obtain ⟨n0,n1,n2⟩:=HI6.out.reads;go_upto_region 11 with fail;go_region;have hs4:=zqbg (k':=d.key) (n':=d.cnt) (I':=.slice pp d.is.length pk) (N':=.slice qp d.ns.length qk) HR6.out;have hbl:=zqa2 (R:=w.heap.size + 1) (k':=d.key) (n':=d.cnt) (I':=.slice pp d.is.length pk) (N':=.slice qp d.ns.length qk) HB6.out (by omega)
     have hO9:=zqw4 (k':=d.key) (n':=d.cnt) (I':=.slice pp d.is.length pk) (N':=.slice qp d.ns.length qk) HR6.out HO6.out;unfold set4 at hs4 hbl hO9;generalize (((w6.setCell ⟨w.heap.size + 1,0,none⟩ (.int .u64 d.key)).setCell ⟨w.heap.size + 1,1,none⟩ (.int .i64 d.cnt)).setCell ⟨w.heap.size + 1,2,none⟩ (.slice pp d.is.length pk)).setCell ⟨w.heap.size + 1,3,none⟩ (.slice qp d.ns.length qk) = W9 at *;obtain ⟨⟨s0,s1,s2,s3⟩,-⟩:=zqac (show W9.drew.heap[w.heap.size + 1]? = _ from hs4);go_wp2_with fail;exact bodyPost_ret (v:=.tuple #[CeV d (.slice pp d.is.length pk) (.slice qp d.ns.length qk),.int .i64 (p:Nat),.int .i64 0]) (by simp [results,Tryz.results17,go_sem,s0,s1,s2,s3]) rfl (HYes.out _ _ _ _ hE (hO9.mem.below (Below.refl _ _).drew) HD.out hbl.drew)
   ·have hE:=HE1.out he;have he2:((e:Int) != 0) = true:=by simp; omega
    go_upto_region 8 with fail;go_region;have hs4:=zqbg (k':=0) (n':=0) (I':=.slice none 0 0) (N':=.slice none 0 0) HR5.out;have hbl:=zqa2 (R:=w.heap.size + 1) (k':=0) (n':=0) (I':=.slice none 0 0) (N':=.slice none 0 0) HB5.out (by omega)
    unfold set4 at hs4 hbl;generalize (((w5.setCell ⟨w.heap.size + 1,0,none⟩ (.int .u64 0)).setCell ⟨w.heap.size + 1,1,none⟩ (.int .i64 0)).setCell ⟨w.heap.size + 1,2,none⟩ (.slice none 0 0)).setCell ⟨w.heap.size + 1,3,none⟩ (.slice none 0 0) = W4 at *;obtain ⟨⟨s0,s1,s2,s3⟩,-⟩:=zqac (show W4.drew.heap[w.heap.size + 1]? = _ from hs4);go_wp2_with fail;exact bodyPost_ret (v:=.tuple #[CeV ce0 (.slice none 0 0) (.slice none 0 0),.int .i64 0,.int .i64 e]) (by simp [results,Tryz.results17,go_sem,ce0,s0,s1,s2,s3]) rfl (HNo.out _ _ (by exact ⟨hE,he⟩) hbl.drew)
  ·have hE:gotE S m b = 11:=by
    unfold gotE codE numE;have h1:¬ (checkL S = 0 ∧ m ≤ fullL S.ds):=fun q => hm (by have:=q.2; unfold fullL at this; omega)
    have h2:¬ m ≤ fullL S.ds:=fun q => h1 ⟨hc0,q⟩
    rw [if_neg h1,if_pos hc0,if_neg h2];simp
   rw [decide_eq_false hm] at HSu;obtain ⟨⟨a1,c1,rfl⟩,⟨a2,c2,rfl⟩,⟨a3,c3,rfl⟩,a4,c4,rfl⟩:=h.slices;obtain ⟨va,vc,rfl,-,-⟩:=hv;generalize gotE S m b = E at *;generalize GotQ w S m b = GP at *;generalize (2:Int) ^ S.ds.length - 1 = FU at *;generalize S.is.length = ni at *;generalize S.ns.length = nn at *;generalize S.ds.length = nd at *;generalize S.vs.length = nvs at *;clear h hw hb hb1 hb2 hy hcn m0 m1 hm hc0;go_enter Tryz.func17,Tryz.ntmps17;go_upto_region 1 with fail;generalize (w.alloc (SchO (.slice a1 nd c1) (.slice a2 ni c2) (.slice a3 nn c3) (.slice a4 nvs c4))).alloc (.cells #[.int .u64 0,.int .i64 0,.slice none 0 0,.slice none 0 0] 32) = W0 at *;obtain ⟨x0,x1,x2,x3⟩:=HX.out.reads;go_wp2_with fail;refine (HCk.out _ HB.out).mono ?_; rintro r w1 ⟨rfl,hb1⟩;have HB1:=zh (zqaa HB.out hb1);have HX1:=zh (HX.out.below hb1);have HR1:=zh ((hb1.block _ (Array.getElem?_eq_some_iff.1 HR.out).1).trans HR.out);clear hb1 x0 x1 x2 x3;obtain ⟨x0,x1,x2,x3⟩:=HX1.out.reads;go_wp2_with fail;refine (HFu.out _ HB1.out).mono ?_; rintro r w2 ⟨rfl,hb1⟩;have HB2:=zh (zqaa HB1.out hb1);have HR2:=zh ((hb1.block _ (Array.getElem?_eq_some_iff.1 HR1.out).1).trans HR1.out);clear hb1 x0 x1 x2 x3;go_wp2_with fail;refine (HSu.out _).mono ?_; rintro r w2' ⟨rfl,rfl⟩;obtain ⟨⟨r0,r1,r2,r3⟩,rf⟩:=zqac HR2.out;go_wp2_with fail;have hs4:=zqbg (k':=0) (n':=0) (I':=.slice none 0 0) (N':=.slice none 0 0) (HR2.out);have hbl:=zqa2 (R:=w.heap.size + 1) (k':=0) (n':=0) (I':=.slice none 0 0) (N':=.slice none 0 0) HB2.out (by omega)
   unfold set4 at hs4 hbl;generalize (((w2.setCell ⟨w.heap.size + 1,0,none⟩ (.int .u64 0)).setCell ⟨w.heap.size + 1,1,none⟩ (.int .i64 0)).setCell ⟨w.heap.size + 1,2,none⟩ (.slice none 0 0)).setCell ⟨w.heap.size + 1,3,none⟩ (.slice none 0 0) = W4 at *;obtain ⟨⟨s0,s1,s2,s3⟩,-⟩:=zqac hs4;exact bodyPost_ret (v:=.tuple #[CeV ce0 (.slice none 0 0) (.slice none 0 0),.int .i64 0,.int .i64 11]) (by simp [results,Tryz.results17,go_sem,ce0,s0,s1,s2,s3]) rfl (HNo.out _ _ (by exact ⟨hE,by decide⟩) hbl)
 ·have hE:gotE S m b = 1:=by
   unfold gotE codE numE;rw [if_neg (fun q => hc0 q.1),if_neg hc0]
   simp
  have hcn:((checkL S:Int) != 0) = true:=by simp [hc0]
  obtain ⟨⟨a1,c1,rfl⟩,⟨a2,c2,rfl⟩,⟨a3,c3,rfl⟩,a4,c4,rfl⟩:=h.slices;obtain ⟨va,vc,rfl,-,-⟩:=hv;generalize gotE S m b = E at *;generalize GotQ w S m b = GP at *;generalize checkL S = CL at *;generalize S.is.length = ni at *;generalize S.ns.length = nn at *;generalize S.ds.length = nd at *;generalize S.vs.length = nvs at *;clear h hw hb hb1 hb2 hy m0 m1 hc0;go_enter Tryz.func17,Tryz.ntmps17;go_upto_region 1 with fail;generalize (w.alloc (SchO (.slice a1 nd c1) (.slice a2 ni c2) (.slice a3 nn c3) (.slice a4 nvs c4))).alloc (.cells #[.int .u64 0,.int .i64 0,.slice none 0 0,.slice none 0 0] 32) = W0 at *;obtain ⟨x0,x1,x2,x3⟩:=HX.out.reads;go_wp2_with fail;refine (HCk.out _ HB.out).mono ?_; rintro r w1 ⟨rfl,hb1⟩;have HB1:=zh (zqaa HB.out hb1);have HR1:=zh ((hb1.block _ (Array.getElem?_eq_some_iff.1 HR.out).1).trans HR.out);clear hb1 x0 x1 x2 x3;obtain ⟨⟨r0,r1,r2,r3⟩,rf⟩:=zqac HR1.out;go_wp2_with fail;have hs4:=zqbg (k':=0) (n':=0) (I':=.slice none 0 0) (N':=.slice none 0 0) (HR1.out);have hbl:=zqa2 (R:=w.heap.size + 1) (k':=0) (n':=0) (I':=.slice none 0 0) (N':=.slice none 0 0) HB1.out (by omega)
  unfold set4 at hs4 hbl;generalize (((w1.setCell ⟨w.heap.size + 1,0,none⟩ (.int .u64 0)).setCell ⟨w.heap.size + 1,1,none⟩ (.int .i64 0)).setCell ⟨w.heap.size + 1,2,none⟩ (.slice none 0 0)).setCell ⟨w.heap.size + 1,3,none⟩ (.slice none 0 0) = W4 at *;obtain ⟨⟨s0,s1,s2,s3⟩,-⟩:=zqac hs4;exact bodyPost_ret (v:=.tuple #[CeV ce0 (.slice none 0 0) (.slice none 0 0),.int .i64 0,.int .i64 1]) (by simp [results,Tryz.results17,go_sem,ce0,s0,s1,s2,s3]) rfl (HNo.out _ _ (by exact ⟨hE,by decide⟩) hbl)
end Go.Proofs.YtpgchfihedcdkaaGreatDoor
namespace Go.Proofs.YtpgchfihedcdkaaGreatDoor
set_option maxRecDepth 100000
open Go.RowKit Go.ChangeShapes Go.WideShapes Go.Deep
set_option linter.unusedVariables false
theorem zqxy {H:Type} {enc:TypeId × Value → H} {w:World} {base:Nat} {spare:Nat → Bool} {held:Bool} {v:Value} {d:DataW H} {p:List MemPlace}
  (h:DataW.Trod enc Tryz.prog w base spare held 36 v d p) (hs:∃ a l c,v = .slice a l c) :
  ∃ b,Ints .u8 w v b ∧ Bt b:=by
 obtain ⟨a,l,c,rfl⟩:=hs;obtain ⟨fuel,h⟩:=h;rcases open_ints Tryz.underlying36 Tryz.underlying5 (by kernel_rfl) h with ⟨hcs,_⟩ | ⟨x,l,c,zs,hcs,_,hl,hm,hz,_,hcell,hwz⟩
 ·simp [Value.cells] at hcs;obtain ⟨rfl,rfl,rfl⟩:=hcs;exact ⟨[],⟨none,0,rfl,by simp,.inl rfl⟩,fun _ h => by cases h⟩
 ·simp [Value.cells] at hcs;obtain ⟨rfl,rfl,rfl⟩:=hcs;have hlz:l ≤ zs.length:=by rw [hz]; split <;> omega
  have ht:(zs.take l).length = l:=by rw [List.length_take]; omega
  refine ⟨zs.take l,⟨some x,c,by rw [ht],by omega,?_⟩,fun n hn => ?_⟩
  ·by_cases h0:l = 0
   ·subst h0; exact .inl (by simp)
   ·refine .inr ?_;obtain ⟨b,off,spot⟩:=x;have hc:=hcell 0 (by omega)
    have hspot:spot = none:=by simpa [Addr.add] using World.cell?_spot hc
    subst hspot;refine ⟨b,off,rfl,World.block_lt_of_cell? w _ hc,fun i hi => ?_⟩
    rw [ht] at hi;have e:(zs.take l).getD i 0 = zs.getD i 0:=by simp [List.getD,hi]
    rw [e];have hh:=hcell i (by omega)
    by_cases h0:i = 0
    ·subst h0; simpa [Addr.add] using hh
    ·simpa [Addr.add,h0] using hh
  ·have:=hwz n (List.mem_of_mem_take hn);simp [Lit.wf,IntKind.min,IntKind.max,IntKind.signed,IntKind.bits] at this;omega
end Go.Proofs.YtpgchfihedcdkaaGreatDoor
