/- AggGets: which valid cell any bytes begin with, or why none, is what the document says; what is got has these bytes. No condition; the row lists the two tables of math/bits as the program's text lays them. -/
import Derived.SevenTiedAt
import Derived.Test.YtpgchfihedcdkaaGreatDoorRows
import Derived.Test.YtpgchfihedcdkaaGreatDoorCards
import Derived.Test.YtpgchfihedcdkaaGreatDoorTie
import Derived.Test.YtpgchfihedcdkaaGreatDoorGt02
import Derived.Test.YtpgchfihedcdkaaGreatDoorGt10
import Derived.Test.YtpgchfihedcdkaaGreatDoorGt17
import Derived.Test.YtpgchfihedcdkaaGreatDoorGt28
import Derived.Test.YtpgchfihedcdkaaGreatDoorGt34
import Derived.Test.YtpgchfihedcdkaaGreatDoorGt35
import Derived.Test.YtpgchfihedcdkaaGreatDoorGt38
namespace Go.Proofs.YtpgchfihedcdkaaGreatDoor.aggGets
set_option maxRecDepth 100000
open Go.ChangeShapes Go.WideShapes Go.ChangeAt Go.RowKit
set_option linter.unusedVariables false
theorem run_upto14 {w:World} {a:Option Addr} {cap l h:Nat} (hh:h ≤ cap) (hs:∃ i,Tryz.prog.info? 5 = some i ∧ i.size = 1):(Instr.slice 36 (.slice a l cap) none (some (.int .i64 h)) none).run Tryz.prog w = .ok (.slice a h cap) w:=by
 obtain ⟨i,hi,hs⟩:=hs;simp [Instr.slice,run_underlying Tryz.underlying36,Instr.sliceBounds,Instr.sliceBound,asIntOf,sizeOf,typeInfo,hi,hh,go_sem]
theorem ints_take14 {w:World} {a:Option Addr} {cap h:Nat} {b:List Int} (hv:Ints .u8 w (.slice a b.length cap) b) (hh:h ≤ b.length):Ints .u8 w (.slice a h cap) (b.take h):=by
 obtain ⟨a',cap',e,hc,ha⟩:=hv;injection e with e1 e2 e3;subst e1 e3;refine ⟨a,cap,by rw [List.length_take,Nat.min_eq_left hh],by rw [List.length_take]; omega,?_⟩
 rcases ha with h0 | ⟨g,off,rfl,hg,hcell⟩
 ·left; rw [h0]; simp
 ·right;refine ⟨g,off,rfl,hg,fun i hi => ?_⟩
  rw [List.length_take] at hi;have h1:=hcell i (by omega)
  rw [h1];simp [List.getD,show i < h by omega]
theorem hold4p {w w':World} {p0 p1 p2 p3:Addr} {v0 v1 v2 v3:Value} (h:w.cell? p0 = some v0 ∧ w.cell? p1 = some v1 ∧ w.cell? p2 = some v2 ∧ w.cell? p3 = some v3) (hb:Below w.heap.size w w'):w'.cell? p0 = some v0 ∧ w'.cell? p1 = some v1 ∧ w'.cell? p2 = some v2 ∧ w'.cell? p3 = some v3 :=
 ⟨cell_later hb h.1,cell_later hb h.2.1,cell_later hb h.2.2.1,cell_later hb h.2.2.2⟩
theorem got_all {S:Sc} {m:Int} {b:List Int} (hb:Bt b) (h:gotE S m b = 0):CeW (gotC S m b) ∧ lightC (gotC S m b) = true ∧ encC (gotC S m b) = b.take (gotN S m b) ∧ gotN S m b ≤ b.length:=by
 have hc:gotC S m b = (rdCe b S.is.length S.ns.length (0,0)).1:=by unfold gotC; rw [if_pos h]
 have hn:gotN S m b = (rdCe b S.is.length S.ns.length (0,0)).2.1:=by unfold gotN; rw [if_pos h]
 have hst:=(zqlo (b:=b) hb S.is.length S.ns.length (s:=(0,0)) ⟨Nat.zero_le _,by decide⟩).1
 have hw:=zqkq hb S.is.length S.ns.length (0,0);have h2:(checkL S = 0 ∧ m ≤ fullL S.ds) ∧ (rdCe b S.is.length S.ns.length (0,0)).2.2 = 0 ∧ rightC S m (rdCe b S.is.length S.ns.length (0,0)).1 = true:=by
  unfold gotE at h
  by_cases h1:checkL S = 0 ∧ m ≤ fullL S.ds
  ·rw [if_pos h1] at h
   by_cases h3:(rdCe b S.is.length S.ns.length (0,0)).2.2 = 0
   ·rw [if_pos h3] at h
    by_cases h4:rightC S m (rdCe b S.is.length S.ns.length (0,0)).1 = true
    ·exact ⟨h1,h3,h4⟩
    ·rw [if_neg h4] at h; cases h
   ·rw [if_neg h3] at h; exact absurd h h3
  ·rw [if_neg h1] at h;exfalso;unfold codE numE at h
   by_cases h5:checkL S = 0
   ·have h6:¬ m ≤ fullL S.ds:=fun q => h1 ⟨h5,q⟩
    rw [if_pos h5,if_neg h6] at h;simp at h
   ·rw [if_neg h5] at h;simp at h
 obtain ⟨⟨hk,-⟩,h0,hr⟩:=h2;have hcn:=zqb0.1 (zqdh hk).1;obtain ⟨q1,q2,q3,q4⟩:=zqp5 hw hr;have hi:=(zqz1 hb S.is.length S.ns.length (0,0) h0).2 [] rfl;rw [hc,hn];refine ⟨hw,zqmo.2 ⟨by omega,by omega,fun k hk => ?_,fun k hk => ?_⟩,by rw [hi]; rfl,hst.1⟩
 ·rw [zqbl hk]; have:=q3 _ (List.getElem_mem hk); omega
 ·rw [zqa3 hk]; have:=q4 _ (List.getElem_mem hk); omega
theorem gotC_w {S:Sc} {m:Int} {b:List Int} (hb:Bt b):CeW (gotC S m b):=by
 unfold gotC
 split
 ·exact zqkq hb _ _ _
 ·exact ce0_w
set_option maxHeartbeats 32000000 in
theorem walk (D I M V:Value) (S:Sc) (m:Int) (v:Value) (b:List Int) (w:World) (h:Sch4 w D I M V S) (hw:SWf S) (hm:0 ≤ m ∧ m ≤ 4294967295) (hv:Ints .u8 w v b) (hbt:Bt b) (hT:Tab w) (hT2:Tab64 w) :
  Calls Tryz.prog 4 #[SchV D I M V,.int .u32 m,v] w fun e w' => e = .returned (.bool true) ∧ Below w.heap.size w w':=by
 have HA:=zh (fun w1 (hb1:Below w.heap.size w w1) => zqpq w1 (hT.call hb1) (hT2.call hb1))
 have HL:=zh (fun w1 (hb:Below w.heap.size w w1) => zqti w1 D I M V S (h.below hb))
 have HG:=zh (fun w1 (hb:Below w.heap.size w w1) (hl:b.length ≤ 20000) => zqsv w1 D I M V v S m b (h.below hb) hw (hv.below hb) hbt hl hm.1 hm.2)
 have HRG:=zh (fun w1 (hb:Below w.heap.size w w1) (hl:b.length ≤ 20000) => zqs5 w1 D I M V v S m b (h.below hb) hw (hv.below hb) hbt hl hm.1 hm.2)
 have HRS:=zh (fun w1 d P Q P' Q' (kc:CeM w1 P Q (gotC S m b)) (kd:CeM w1 P' Q' d) (hd:LikeC (gotC S m b) d) => zqp7 w1 (gotC S m b) d P Q P' Q' kc kd (gotC_w hbt) (hd.w (gotC_w hbt)))
 have HSm:=zh (fun d (hd:LikeC (gotC S m b) d) => hd.same)
 have HRP0:=zh (fun w1 P Q (kc:CeM w1 P Q (gotC S m b)) (h0:gotE S m b = 0) => zqs7 w1 P Q (gotC S m b) kc (got_all hbt h0).1 (got_all hbt h0).2.1)
 have HEn:=zh (fun (h0:gotE S m b = 0) => (got_all hbt h0).2.2)
 have HBt0:=zh hbt;have HV:=zh hv;have HB:=zh (zqab w (SchO D I M V));have HX:=zh (zqa6 w D I M V);obtain ⟨⟨a1,c1,rfl⟩,⟨a2,c2,rfl⟩,⟨a3,c3,rfl⟩,a4,c4,rfl⟩:=h.slices;have hvc:=hv;obtain ⟨va,vc,rfl,hcap,-⟩:=hvc;clear h hw hm hv hbt hT hT2;unfold GotP at HG;unfold GotQ at HRG;go_enter Tryz.func4,Tryz.ntmps4;go_upto_region 1 with fail;generalize w.alloc (SchO (.slice a1 S.ds.length c1) (.slice a2 S.is.length c2) (.slice a3 S.ns.length c3) (.slice a4 S.vs.length c4)) = W at *;obtain ⟨x0,x1,x2,x3⟩:=HX.out.reads
 by_cases hl:b.length ≤ 1500
 rotate_left
 ·have h2:((1500:Int) < (b.length:Int)):=by omega
  clear HG HRG HRS HSm HRP0 HEn;generalize b.length = bl at *;go_wp2_with fail;refine (HL.out _ HB.out).mono ?_; rintro e w1 ⟨⟨bl2,rfl⟩,hb⟩;have HB1:=zh (zqaa HB.out hb);clear x0 x1 x2 x3 hb;cases bl2 with
  | false =>
   go_wp2_with fail;refine (HA.out _ HB1.out).mono ?_; rintro e wA ⟨rfl,hbA⟩;have HBA:=zh (zqaa HB1.out hbA);clear hbA;go_wp2_with fail;go_ret;exact ⟨rfl,HBA.out⟩
  | true =>
   go_wp2_with fail;refine (HA.out _ HB1.out).mono ?_; rintro e wA ⟨rfl,hbA⟩;have HBA:=zh (zqaa HB1.out hbA);clear hbA;go_wp2_with fail;go_ret;exact ⟨rfl,HBA.out⟩
 have h2:¬ ((1500:Int) < (b.length:Int)):=by omega
 have HG1:=zh (fun w1 hb => HG.out w1 hb (by omega))
 have HRG1:=zh (fun w1 hb => HRG.out w1 hb (by omega))
 clear HG HRG;go_wp2_with fail;refine (HL.out _ HB.out).mono ?_; rintro e w1 ⟨⟨bl2,rfl⟩,hb⟩;have HB1:=zh (zqaa HB.out hb);have HX1:=zh (HX.out.below hb);clear x0 x1 x2 x3 hb HX HB HL;cases bl2 with
 | false =>
  go_wp2_with fail;refine (HA.out _ HB1.out).mono ?_; rintro e wA ⟨rfl,hbA⟩;have HBA:=zh (zqaa HB1.out hbA);clear hbA;go_wp2_with fail;go_ret;exact ⟨rfl,HBA.out⟩
 | true =>
  obtain ⟨x0,x1,x2,x3⟩:=HX1.out.reads;obtain ⟨c,hc⟩:∃ c,gotC S m b = c:=⟨_,rfl⟩
  obtain ⟨n,hn⟩:∃ n,gotN S m b = n:=⟨_,rfl⟩
  obtain ⟨e,he⟩:∃ e,gotE S m b = e:=⟨_,rfl⟩
  simp only [hc,hn,he] at HG1 HRG1 HRS HSm HRP0 HEn;go_wp2_with fail;refine (HG1.out _ HB1.out).mono ?_; rintro r w2 ⟨⟨P,Q,rfl,hm2⟩,hb⟩;have HB2:=zh (zqaa HB1.out hb);have HX2:=zh (HX1.out.below hb);obtain ⟨⟨p,k1,rfl⟩,q,k2,rfl⟩:=hm2.slices;have HM2:=zh hm2;clear hm2 hb x0 x1 x2 x3 HG1 HX1 HB1;have hb3:=zqab w2 (.cells #[.int .u64 c.key,.int .i64 c.cnt,.slice p c.is.length k1,.slice q c.ns.length k2] 32);have HC3:=zh (show (w2.alloc (.cells #[.int .u64 c.key,.int .i64 c.cnt,.slice p c.is.length k1,.slice q c.ns.length k2] 32)).heap[w2.heap.size]? = some (.cells (boxV c.key c.cnt (.slice p c.is.length k1) (.slice q c.ns.length k2)) 32 (0,0)) from heap_alloc_new w2 _);go_upto_region 4 with fail;generalize w2.alloc (.cells #[.int .u64 c.key,.int .i64 c.cnt,.slice p c.is.length k1,.slice q c.ns.length k2] 32) = w3 at *;have HB3:=zh (zqaa HB2.out hb3);have HX3:=zh (HX2.out.below hb3);have HM3:=zh (HM2.out.below hb3);generalize w2.heap.size = T at *;clear hb3 HM2 HX2 HB2;obtain ⟨x0,x1,x2,x3⟩:=HX3.out.reads;go_wp2_with fail;refine (HRG1.out _ HB3.out).mono ?_; rintro r w4 ⟨⟨d,P',Q',rfl,hm4,hd⟩,hb⟩;have HB4:=zh (zqaa HB3.out hb);have HC4:=zh ((hb.block _ (Array.getElem?_eq_some_iff.1 HC3.out).1).trans HC3.out);have HM4:=zh (HM3.out.below hb);obtain ⟨⟨p',k1',rfl⟩,q',k2',rfl⟩:=hm4.slices;have HN4:=zh hm4;have HD:=zh hd;clear hm4 hd hb x0 x1 x2 x3 HRG1 HX3 HM3 HC3 HB3;have hb5:=zqab w4 (.cells #[.int .u64 d.key,.int .i64 d.cnt,.slice p' d.is.length k1',.slice q' d.ns.length k2'] 32);have HE5:=zh (show (w4.alloc (.cells #[.int .u64 d.key,.int .i64 d.cnt,.slice p' d.is.length k1',.slice q' d.ns.length k2'] 32)).heap[w4.heap.size]? = some (.cells (boxV d.key d.cnt (.slice p' d.is.length k1') (.slice q' d.ns.length k2')) 32 (0,0)) from heap_alloc_new w4 _);go_upto_region 5 with fail;generalize w4.alloc (.cells #[.int .u64 d.key,.int .i64 d.cnt,.slice p' d.is.length k1',.slice q' d.ns.length k2'] 32) = w5 at *;have HB5:=zh (zqaa HB4.out hb5);have HC5:=zh ((hb5.block _ (Array.getElem?_eq_some_iff.1 HC4.out).1).trans HC4.out);have HM5:=zh (HM4.out.below hb5);have HN5:=zh (HN4.out.below hb5);generalize w4.heap.size = T2 at *;clear hb5 HM4 HN4 HC4 HB4;obtain ⟨⟨t0,t1,t2,t3⟩,-⟩:=zqac HC5.out;obtain ⟨⟨u0,u1,u2,u3⟩,-⟩:=zqac HE5.out;have HS5:=zh (HRS.out _ _ _ _ _ _ HM5.out HN5.out HD.out);rw [HSm.out _ HD.out] at HS5;go_wp2_with fail;refine (HS5.out).mono ?_; rintro r w6 ⟨rfl,hb⟩;have HB6:=zh (zqaa HB5.out hb);have HC6:=zh ((hb.block _ (Array.getElem?_eq_some_iff.1 HC5.out).1).trans HC5.out);have HM6:=zh (HM5.out.below hb);clear hb t0 t1 t2 t3 u0 u1 u2 u3 HS5 HRS HSm HM5 HN5 HE5 HC5 HB5 HD;go_upto_region 7 with fail
  by_cases h0:e = 0
  ·subst h0;obtain ⟨hE,hN⟩:=HEn.out (by trivial)
   have HRP:=zh (fun w1 (hb:Below w.heap.size w w1) kc => HRP0.out w1 (.slice p c.is.length k1) (.slice q c.ns.length k2) kc (by trivial))
   rw [hE] at HRP;have HTk:=zh (ints_take14 HV.out hN);have hop:=fun w' => run_upto14 (w:=w') (a:=va) (cap:=vc) (l:=b.length) (h:=n) (by omega) size1
   have HBt:=zh (show Bt (b.take n) from fun x hx => HBt0.out x (List.mem_of_mem_take hx))
   generalize b.take n = E at *;clear HEn HRP0 hE hN HV HBt0 hl h2;have hk:(convert 36 9 (.slice va n vc)).run Tryz.prog w6.drew = .ok (.string (strB E)) w6.drew ∧ w6.drew.cell? ⟨T,0,none⟩ = some (.int .u64 c.key) ∧ w6.drew.cell? ⟨T,1,none⟩ = some (.int .i64 c.cnt) ∧ w6.drew.cell? ⟨T,2,none⟩ = some (.slice p c.is.length k1) ∧ w6.drew.cell? ⟨T,3,none⟩ = some (.slice q c.ns.length k2):=⟨zqb4 (HTk.out.below (zqaa HB6.out (Below.refl _ _).drew)) HBt.out,(zqac HC6.out).1⟩;have hB:Below w6.heap.size w6 w6.drew:=(Below.refl _ _).drew;refine wp_region_held_drew (S:=fun w' => (convert 36 9 (.slice va n vc)).run Tryz.prog w' = .ok (.string (strB E)) w' ∧ w'.cell? ⟨T,0,none⟩ = some (.int .u64 c.key) ∧ w'.cell? ⟨T,1,none⟩ = some (.int .i64 c.cnt) ∧ w'.cell? ⟨T,2,none⟩ = some (.slice p c.is.length k1) ∧ w'.cell? ⟨T,3,none⟩ = some (.slice q c.ns.length k2)) (by kernel_rfl) hk (fun _ => ?_)
   refine tkA 0 52 (.int .i64 0) rfl hk ?_;try simp only [pS]
   refine tkA 1 53 (.bool false) rfl hk ?_;try simp only [pS]
   refine tkA 2 54 (.bool false) rfl hk ?_;try simp only [pS]
   refine tkA 3 55 (.agg #[.int .u64 c.key,.int .i64 c.cnt,.slice p c.is.length k1,.slice q c.ns.length k2]) rfl hk ?_;try simp only [pS]
   refine tkA 6 58 (.slice va b.length vc) rfl hk ?_;try simp only [pS]
   refine tkA 7 59 (.int .i64 (n:Nat)) rfl hk ?_;try simp only [pS]
   refine tkA 8 60 (.slice va n vc) rfl hk ?_;try simp only [pS]
   refine tkA 9 61 (.string (strB E)) rfl hk ?_;try simp only [pS]
   refine wpAnyH_ready (rs:=[4]) (by kernel_rfl) (by simp) (AllReadyH.cons rfl (fun K' hK => ?_) AllReadyH.nil)
   rw [if_pos (by kernel_rfl)]
   go_simp;go_at_call 13;refine (HRP.out _ (zqaa HB6.out hB) (HM6.out.below hB)).mono ?_; rintro r w7 ⟨⟨u,rfl,ho⟩,hb⟩;replace hB:=zqaa hB hb;have hcv:=zqb4 (Ints.own ho) HBt.out;obtain ⟨ua,ul,uc,rfl⟩:=zqae ho;replace hk:=And.intro (zqb4 (HTk.out.below (zqaa HB6.out hB)) HBt.out) (hold4p hk.2 hb);clear ho hb;refine hK.out _ _ hk (fun _ => ?_)
   try simp only [pS]
   clear hK;refine wpAnyH_ready (rs:=[5]) (by kernel_rfl) (by simp) (AllReadyH.cons rfl (fun K' hK => ?_) AllReadyH.nil)
   rw [if_pos (by kernel_rfl)]
   go_simp;refine hK.out _ _ hk (fun _ => ?_)
   try simp only [pS]
   clear hK hcv;refine tkA 10 62 (.bool true) rfl hk ?_;try simp only [pS]
   refine tkA 11 63 (.bool true) rfl hk ?_;try simp only [pS]
   refine tkA 12 64 (.bool true) rfl hk ?_;try simp only [pS]
   refine wpAnyH_ready (rs:=[13]) (by kernel_rfl) (by simp) (AllReadyH.cons rfl (fun K' hK => ?_) AllReadyH.nil)
   rw [if_pos (by kernel_rfl)]
   go_simp;go_at_call 11;refine (HA.out _ (zqaa HB6.out hB)).mono ?_; rintro r w8 ⟨rfl,hb⟩;replace hB:=zqaa hB hb;clear hb;replace hk:=And.intro (zqb4 (HTk.out.below (zqaa HB6.out hB)) HBt.out) (zqac ((hB.block _ (Array.getElem?_eq_some_iff.1 HC6.out).1).trans HC6.out)).1;refine hK.out _ _ hk (fun _ => ?_)
   try simp only [pS]
   clear hK;refine tkA 14 66 (.bool true) rfl hk ?_;try simp only [pS]
   refine tkA 15 6 (.bool true) rfl hk ?_;try simp only [pS]
   refine wpAnyH_done (by kernel_rfl) ?_ _
   clear hk;have HBZ:=zh (zqaa HB6.out hB);go_wp2_with fail;go_ret;exact ⟨rfl,HBZ.out⟩
  ·clear HEn HRP0 HM6 HC6 HV HBt0;have he2:((e:Int) != 0) = true:=by simp; omega
   have hk:True:=True.intro;have hB:Below w6.heap.size w6 w6.drew:=(Below.refl _ _).drew;refine wp_region_held_drew (S:=fun _ => True) (by kernel_rfl) hk (fun _ => ?_)
   refine tkA 0 52 (.int .i64 (e:Nat)) rfl hk ?_;try simp only [pS]
   refine tkA 1 53 (.bool true) rfl hk ?_;try simp only [pS]
   refine tkA 2 54 (.bool true) rfl hk ?_;try simp only [pS]
   refine skA 3 55 (undef) rfl hk ?_;try simp only [pS]
   refine skA 4 56 (undef) rfl hk ?_;try simp only [pS]
   refine skA 5 57 (undef) rfl hk ?_;try simp only [pS]
   refine skA 6 58 (undef) rfl hk ?_;try simp only [pS]
   refine skA 7 59 (undef) rfl hk ?_;try simp only [pS]
   refine skA 8 60 (undef) rfl hk ?_;try simp only [pS]
   refine skA 9 61 (undef) rfl hk ?_;try simp only [pS]
   refine skA 10 62 (undef) rfl hk ?_;try simp only [pS]
   refine tkA 11 63 (.bool true) rfl hk ?_;try simp only [pS]
   refine tkA 12 64 (.bool true) rfl hk ?_;try simp only [pS]
   refine wpAnyH_ready (rs:=[13]) (by kernel_rfl) (by simp) (AllReadyH.cons rfl (fun K' hK => ?_) AllReadyH.nil)
   rw [if_pos (by kernel_rfl)]
   go_simp;go_at_call 11;refine (HA.out _ (zqaa HB6.out hB)).mono ?_; rintro r w8 ⟨rfl,hb⟩;replace hB:=zqaa hB hb;clear hb;refine hK.out _ _ hk (fun _ => ?_)
   try simp only [pS]
   clear hK;refine tkA 14 66 (.bool true) rfl hk ?_;try simp only [pS]
   refine tkA 15 6 (.bool true) rfl hk ?_;try simp only [pS]
   refine wpAnyH_done (by kernel_rfl) ?_ _
   clear hk;have HBZ:=zh (zqaa HB6.out hB);go_wp2_with fail;go_ret;exact ⟨rfl,HBZ.out⟩
set_option maxRecDepth 100000 in
theorem lifted (os:Os) (started:os.Started) (H:Type) (enc:TypeId × Value → H) :
  ReturnsInHanded {} Tryz.checked os 4 .any (fun w args => (Rows.aggGetsSpec.pre enc Tryz.prog Tryz.f4 [] false w args ∧ laidMetH Tryz.prog laid3 w) ∧ sizedMet enc Tryz.prog Tryz.f4 (OpenSpec.ofChange Rows.aggGetsSpec) false w args)
   (Rows.aggGetsSpec.post enc Tryz.prog Tryz.f4 false true false false):=by
 refine returnsInHanded_of_change_and (C:=Tryz.checked) (X:=fun w _ => laidMetH Tryz.prog laid3 w) (fun _ _ _ hh h => h.of_heap hh) own2 started (by kernel_rfl) Tryz.func4
  (ChangeSpec.witness_shaped (enc:=enc) (C:=Tryz.checked) (os:=os) (X:=fun w _ => laidMetH Tryz.prog laid3 w) false (World.doorLaid Tryz.prog 800 os) #[.agg #[.slice none 0 0,.slice none 0 0,.slice none 0 0,.slice none 0 0],.int .u32 0,.slice none 0 0] 8 rfl (World.shaped_of_RefB (by kernel_rfl) (by kernel_rfl)) (by kernel_rfl) (by kernel_rfl) (by kernel_rfl) (zquj os _)) ?_
 intro W base args ds gs before hval0 hW _ _ hL _;have hTab:=zq2l hL;have hTab64:=zqxb hL;have hval:∀ (j:Nat) t v,Tryz.f4.params[j]? = some t → args[j]? = some v → Value.okWide Tryz.prog W .any base t v:=hval0
 have hW':=hW;obtain ⟨p,q,hA0,hV,rfl,hfz,hnd⟩:=hW;have hA:DataW.TrodAll enc Tryz.prog W 0 (fun _ => true) true Tryz.f4.params.toList args.toList ds p:=hA0
 rw [Tryz.params4] at hA hval;obtain ⟨v0,vs0,d0,ds0,p0,q0,hargs,rfl,rfl,h0,r0⟩:=trodAll_cons hA;obtain ⟨v1,vs1,d1,ds1,p1,q1,rfl,rfl,rfl,h1,r1⟩:=trodAll_cons r0;obtain ⟨v2,vs2,d2,ds2,p2,q2,rfl,rfl,rfl,h2,r2⟩:=trodAll_cons r1;obtain ⟨rfl,rfl,rfl⟩:=trodAll_nil r2;obtain rfl:args = #[v0,v1,v2]:=by cases args; simp_all
 obtain ⟨rfl,rfl⟩:=trodVars_none hV;have k0:=h0;have lt0:∀ x ∈ p0,x.block < W.heap.size:=by obtain ⟨m,hm⟩:=k0; exact DataW.trod_lt m _ _ _ hm
 obtain ⟨D0,I0,N0,V0,S0,rfl,s0,w0⟩:=zqw2 (hval 0 26 v0 rfl rfl) h0;obtain ⟨a1,rfl,rfl,rfl,w1⟩:=open_int Tryz.underlying27 (hval 1 27 v1 rfl rfl) h1;have k2:=h2;have lt2:∀ x ∈ p2,x.block < W.heap.size:=by obtain ⟨m,hm⟩:=k2; exact DataW.trod_lt m _ _ _ hm
 obtain ⟨a2,len2,cap2,rfl⟩:=okWide_slice Tryz.underlying36 (hval 2 36 v2 rfl rfl);obtain ⟨z2,s2,w2⟩:=zqxy h2 ⟨_,_,_,rfl⟩;clear hA0 hval0;refine (walk D0 I0 N0 V0 S0 a1 (.slice a2 len2 cap2) z2 W s0 w0 (bounds_u32 w1) s2 w2 hTab hTab64).mono fun e W' ⟨he,bel⟩ => ?_
 subst he;exact ⟨_,rfl,_,_,_,[],_,[],hW',trodAll_mk1 (shut_bool Tryz.underlying4 _),(trodAll_cons_mk (Below.trod laidOut2 (by kernel_rfl) (of_decide_eq_true (by kernel_rfl)) k0 bel lt0) (trodAll_cons_mk (shut_int Tryz.underlying27 w1) (trodAll_cons_mk (Below.trod laidOut2 (by kernel_rfl) (of_decide_eq_true (by kernel_rfl)) k2 bel lt2) trodAll_mk0))),rfl,bel.frame _,fun h => by cases h⟩
theorem over:Rows.aggGetsRow.holds Tryz.pinned (OpenSpec.ofChange Rows.aggGetsSpec) :=
 OpenClaim.holds_of_wide 4 Tryz.f4 rfl rfl rfl rfl rfl rfl rfl ⟨rfl,rfl,rfl,rfl,rfl⟩ rfl rfl rfl rfl rfl (by kernel_rfl) Tryz.func4 (by kernel_rfl)
  (of_decide_eq_true (by kernel_rfl)) (by unfold Func.isWrapper; first | (rw [if_pos (by decide +kernel)]; kernel_rfl) | (rw [if_neg (by decide +kernel)]; exact ⟨rfl,rfl⟩))
  (fun os started H enc _ => lifted os started H enc)
theorem row_holds:Rows.AggGetsSaid:=over
end Go.Proofs.YtpgchfihedcdkaaGreatDoor.aggGets
namespace Go.Proofs.YtpgchfihedcdkaaGreatDoor
theorem aggGets_holds:Rows.AggGetsCardSaid :=
 Claim7.holds_tied_plain_at .later [] [.data,.data] true _ false
  aggGets.row_holds (fun _ h => by cases h) (by kernel_rfl) (fun _ h => by cases h) aggGets_row_tie rfl ⟨rfl,rfl⟩ (by kernel_rfl) rfl
  (fun f fn hf hfn => by
   obtain rfl : f = 4 := Option.some.inj ((show Tryz.prog.funcNamed "bushel/bushellaw14.AggGets" = some 4 by kernel_rfl).symm.trans hf) |>.symm
   obtain rfl:fn = Tryz.f4:=(Option.some.inj (Tryz.func4.symm.trans hfn)).symm;exact ⟨by kernel_rfl,fun j t ht => by
    rw [Tryz.params4] at ht;have hm:t ∈ [26,27,36]:=by simpa using Array.mem_of_getElem? ht
    have hall:([26,27,36].all fun u => !Tryz.prog.wantsStandIn u) = true:=by kernel_rfl
    exact (show Tryz.prog.wantsStandIn t = false by simpa using List.all_eq_true.1 hall t hm)⟩)
  (by kernel_rfl)
#print axioms aggGets_holds
end Go.Proofs.YtpgchfihedcdkaaGreatDoor
