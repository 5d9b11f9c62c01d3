/- Contracts that the law leans on: Aggz. -/
import Derived.Test.YtmnbljijnbhghaaGreatDoorPt02
import Derived.Test.YtmnbljijnbhghaaGreatDoorPt09
import Derived.Test.YtmnbljijnbhghaaGreatDoorPt12
import Derived.Test.YtmnbljijnbhghaaGreatDoorPt21
import Derived.Test.YtmnbljijnbhghaaGreatDoorPt22
import Derived.Test.YtmnbljijnbhghaaGreatDoorPt23
import Derived.Test.YtmnbljijnbhghaaGreatDoorPt25
namespace Go.Proofs.YtmnbljijnbhghaaGreatDoor
set_option maxRecDepth 100000
open Go.RowKit
set_option linter.unusedVariables false
set_option maxHeartbeats 16000000 in
theorem zqnk (w:World) (D I M V P Q:Value) (S:Sc) (m:Int) (c:Ce) (h:Sch4 w D I M V S) (hw:SWf S) (h':CeM w P Q c) (hc:CeW c) (m0:0 ≤ m) (m1:m ≤ 4294967295) :
  Calls Tryz.prog 38 #[SchV D I M V,.int .u32 m,CeV c P Q] w fun e w' => e = .returned (.bool (rightC S m c)) ∧ Below w.heap.size w w':=by
 have hb1:=zqab w (SchO D I M V);have hb2:=zqab (w.alloc (SchO D I M V)) (CeO c P Q);have HB:=zh (zqaa hb1 hb2);have HX:=zh ((zqau w D I M V).below hb2);have hy:=zqbe (w.alloc (SchO D I M V)) c P Q;rw [World.size_alloc] at hy;have HY:=zh hy;have HCk:=zh (fun w1 (hb:Below w.heap.size w w1) => zqjq w1 D I M V S (h.below hb) hw)
 have HFu:=zh (fun w1 (hb:Below w.heap.size w w1) (hn:S.ds.length ≤ 6) => zqll w1 D I M V S (h.below hb) hn)
 have HSu:=zh (fun w1 (hn:S.ds.length ≤ 6) => zqim w1 m S.ds.length hn m0 m1)
 have HKe:=zh (fun w1 (hb:Below w.heap.size w w1) (hn:S.ds.length ≤ 6) (hz:sizB S.ds = true) => zqum w1 D I M V S m (h.below hb) hn hz m0 m1)
 have HI:=zh (fun w1 (hb:Below w.heap.size w w1) => h'.i.below hb)
 have HQ:=zh (fun w1 (hb:Below w.heap.size w w1) => h'.n.below hb)
 have HWc:=zh hc;have HR:=zh (show rightC S m c = (decide (checkL S = 0 ∧ m ≤ fullL S.ds) && (decide (c.key < keysL S.ds m S.ds.length) && decide (1 ≤ c.cnt) && decide (c.is.length = S.is.length) && decide (c.ns.length = S.ns.length) && allW c.is && allR c.ns)) from rfl);have HW:=zh (fun k (hk:k < c.is.length) (h:rightW (wg c.is k) = false) => show rightC S m c = false by unfold rightC validC; rw [zqo9 hk h]; simp)
 have HRr:=zh (fun k (hk:k < c.ns.length) (h:rightR (rg c.ns k) = false) => show rightC S m c = false by unfold rightC validC; rw [zqo8 hk h]; simp)
 obtain ⟨⟨a1,c1,rfl⟩,⟨a2,c2,rfl⟩,⟨a3,c3,rfl⟩,a4,c4,rfl⟩:=h.slices;obtain ⟨⟨p,k1,rfl⟩,p2,k2,rfl⟩:=h'.slices;unfold fullL at HFu HR;generalize rightC S m c = R at *;clear h h' hc hw hb1 hb2 hy m0 m1;go_enter Tryz.func38,Tryz.ntmps38;go_upto_region 1 with fail;generalize (w.alloc (SchO (.slice a1 S.ds.length c1) (.slice a2 S.is.length c2) (.slice a3 S.ns.length c3) (.slice a4 S.vs.length c4))).alloc (CeO c (.slice p c.is.length k1) (.slice p2 c.ns.length k2)) = W at *;obtain ⟨x0,x1,x2,x3⟩:=HX.out.reads;obtain ⟨y0,y1,y2,y3⟩:=HY.out.reads
 by_cases hc0:checkL S = 0
 rotate_left
 ·have hR:R = false:=HR.out.trans (by rw [decide_eq_false (fun q => hc0 q.1)]; rfl)
  subst hR;have hcn:((checkL S:Int) != 0) = true:=by simp [hc0]
  generalize checkL S = CL at *;clear hc0 HR HFu HSu HKe HI HQ HW HRr HWc;have hk:W.drew.cell? ⟨w.heap.size,0,none⟩ = some (.slice a1 S.ds.length c1) ∧ W.drew.cell? ⟨w.heap.size,1,none⟩ = some (.slice a2 S.is.length c2) ∧ W.drew.cell? ⟨w.heap.size,2,none⟩ = some (.slice a3 S.ns.length c3) ∧ W.drew.cell? ⟨w.heap.size,3,none⟩ = some (.slice a4 S.vs.length c4) ∧ W.drew.cell? ⟨w.heap.size + 1,0,none⟩ = some (.int .u64 c.key) ∧ W.drew.cell? ⟨w.heap.size + 1,1,none⟩ = some (.int .i64 c.cnt) ∧ W.drew.cell? ⟨w.heap.size + 1,2,none⟩ = some (.slice p c.is.length k1) ∧ W.drew.cell? ⟨w.heap.size + 1,3,none⟩ = some (.slice p2 c.ns.length k2):=⟨x0,x1,x2,x3,y0,y1,y2,y3⟩;have hBw:Below W.heap.size W W.drew:=(Below.refl _ _).drew;clear x0 x1 x2 x3 y0 y1 y2 y3;refine wp_region_held_drew (S:=fun w' => w'.cell? ⟨w.heap.size,0,none⟩ = some (.slice a1 S.ds.length c1) ∧ w'.cell? ⟨w.heap.size,1,none⟩ = some (.slice a2 S.is.length c2) ∧ w'.cell? ⟨w.heap.size,2,none⟩ = some (.slice a3 S.ns.length c3) ∧ w'.cell? ⟨w.heap.size,3,none⟩ = some (.slice a4 S.vs.length c4) ∧ w'.cell? ⟨w.heap.size + 1,0,none⟩ = some (.int .u64 c.key) ∧ w'.cell? ⟨w.heap.size + 1,1,none⟩ = some (.int .i64 c.cnt) ∧ w'.cell? ⟨w.heap.size + 1,2,none⟩ = some (.slice p c.is.length k1) ∧ w'.cell? ⟨w.heap.size + 1,3,none⟩ = some (.slice p2 c.ns.length k2)) (by kernel_rfl) hk (fun _ => ?_)
  refine tkA 0 12 (.agg #[.slice a1 S.ds.length c1,.slice a2 S.is.length c2,.slice a3 S.ns.length c3,.slice a4 S.vs.length c4]) rfl hk ?_;try simp only [pS]
  refine wpAnyH_ready (rs:=[1]) (by kernel_rfl) (by simp) (AllReadyH.cons rfl (fun K' hK => ?_) AllReadyH.nil)
  rw [if_pos (by kernel_rfl)]
  go_simp;go_at_call 36;refine (HCk.out _ (zqaa HB.out hBw)).mono ?_; rintro r wb ⟨rfl,hb⟩; have hk:=hold8 hb hk; have hBw:=zqaa hBw hb; clear hb;refine hK.out _ _ hk (fun _ => ?_)
  try simp only [pS]
  refine tkA 2 14 (.bool true) rfl hk ?_;try simp only [pS]
  refine tkA 3 15 (.bool true) rfl hk ?_;try simp only [pS]
  refine skA 4 16 (undef) rfl hk ?_;try simp only [pS]
  refine skA 5 17 (undef) rfl hk ?_;try simp only [pS]
  refine skA 6 18 (undef) rfl hk ?_;try simp only [pS]
  refine skA 7 19 (undef) rfl hk ?_;try simp only [pS]
  refine skA 8 20 (undef) rfl hk ?_;try simp only [pS]
  refine tkA 9 21 (.bool true) rfl hk ?_;try simp only [pS]
  refine tkA 10 22 (.bool true) rfl hk ?_;try simp only [pS]
  refine skA 11 23 (undef) rfl hk ?_;try simp only [pS]
  refine skA 12 24 (undef) rfl hk ?_;try simp only [pS]
  refine skA 13 25 (undef) rfl hk ?_;try simp only [pS]
  refine skA 14 26 (undef) rfl hk ?_;try simp only [pS]
  refine skA 15 27 (undef) rfl hk ?_;try simp only [pS]
  refine skA 16 28 (undef) rfl hk ?_;try simp only [pS]
  refine tkA 17 29 (.bool true) rfl hk ?_;try simp only [pS]
  refine tkA 18 30 (.bool true) rfl hk ?_;try simp only [pS]
  refine skA 19 31 (undef) rfl hk ?_;try simp only [pS]
  refine skA 20 32 (undef) rfl hk ?_;try simp only [pS]
  refine skA 21 33 (undef) rfl hk ?_;try simp only [pS]
  refine tkA 22 34 (.bool true) rfl hk ?_;try simp only [pS]
  refine tkA 23 35 (.bool true) rfl hk ?_;try simp only [pS]
  refine skA 24 36 (undef) rfl hk ?_;try simp only [pS]
  refine skA 25 37 (undef) rfl hk ?_;try simp only [pS]
  refine skA 26 38 (undef) rfl hk ?_;try simp only [pS]
  refine skA 27 39 (undef) rfl hk ?_;try simp only [pS]
  refine skA 28 40 (undef) rfl hk ?_;try simp only [pS]
  refine skA 29 41 (undef) rfl hk ?_;try simp only [pS]
  refine skA 30 42 (undef) rfl hk ?_;try simp only [pS]
  refine tkA 31 43 (.bool true) rfl hk ?_;try simp only [pS]
  refine tkA 32 44 (.bool true) rfl hk ?_;try simp only [pS]
  refine skA 33 45 (undef) rfl hk ?_;try simp only [pS]
  refine skA 34 46 (undef) rfl hk ?_;try simp only [pS]
  refine skA 35 47 (undef) rfl hk ?_;try simp only [pS]
  refine skA 36 48 (undef) rfl hk ?_;try simp only [pS]
  refine skA 37 49 (undef) rfl hk ?_;try simp only [pS]
  refine skA 38 50 (undef) rfl hk ?_;try simp only [pS]
  refine skA 39 51 (undef) rfl hk ?_;try simp only [pS]
  refine tkA 40 52 (.bool true) rfl hk ?_;try simp only [pS]
  refine wpAnyH_done (by kernel_rfl) ?_ _
  have HBe:=zh (zqaa HB.out hBw);clear hk hBw;go_wp2_with fail;go_ret;exact ⟨rfl,HBe.out⟩
 ·have HN:=zh (zqeb hc0).1;have HZ:=zh (zqeb hc0).2;have hcn:((checkL S:Int) != 0) = false:=by rw [hc0]; rfl
  by_cases hm2:m < 2 ^ S.ds.length
  rotate_left
  ·have hR:R = false:=HR.out.trans (by rw [decide_eq_false (fun q => hm2 (by have:=q.2; omega))]; rfl)
   subst hR;rw [decide_eq_false hm2] at HSu;generalize checkL S = CL at *;clear hc0 HR HKe HI HQ HW HRr HWc hm2;have hk:W.drew.cell? ⟨w.heap.size,0,none⟩ = some (.slice a1 S.ds.length c1) ∧ W.drew.cell? ⟨w.heap.size,1,none⟩ = some (.slice a2 S.is.length c2) ∧ W.drew.cell? ⟨w.heap.size,2,none⟩ = some (.slice a3 S.ns.length c3) ∧ W.drew.cell? ⟨w.heap.size,3,none⟩ = some (.slice a4 S.vs.length c4) ∧ W.drew.cell? ⟨w.heap.size + 1,0,none⟩ = some (.int .u64 c.key) ∧ W.drew.cell? ⟨w.heap.size + 1,1,none⟩ = some (.int .i64 c.cnt) ∧ W.drew.cell? ⟨w.heap.size + 1,2,none⟩ = some (.slice p c.is.length k1) ∧ W.drew.cell? ⟨w.heap.size + 1,3,none⟩ = some (.slice p2 c.ns.length k2):=⟨x0,x1,x2,x3,y0,y1,y2,y3⟩;have hBw:Below W.heap.size W W.drew:=(Below.refl _ _).drew;clear x0 x1 x2 x3 y0 y1 y2 y3;refine wp_region_held_drew (S:=fun w' => w'.cell? ⟨w.heap.size,0,none⟩ = some (.slice a1 S.ds.length c1) ∧ w'.cell? ⟨w.heap.size,1,none⟩ = some (.slice a2 S.is.length c2) ∧ w'.cell? ⟨w.heap.size,2,none⟩ = some (.slice a3 S.ns.length c3) ∧ w'.cell? ⟨w.heap.size,3,none⟩ = some (.slice a4 S.vs.length c4) ∧ w'.cell? ⟨w.heap.size + 1,0,none⟩ = some (.int .u64 c.key) ∧ w'.cell? ⟨w.heap.size + 1,1,none⟩ = some (.int .i64 c.cnt) ∧ w'.cell? ⟨w.heap.size + 1,2,none⟩ = some (.slice p c.is.length k1) ∧ w'.cell? ⟨w.heap.size + 1,3,none⟩ = some (.slice p2 c.ns.length k2)) (by kernel_rfl) hk (fun _ => ?_)
   refine tkA 0 12 (.agg #[.slice a1 S.ds.length c1,.slice a2 S.is.length c2,.slice a3 S.ns.length c3,.slice a4 S.vs.length c4]) rfl hk ?_;try simp only [pS]
   refine wpAnyH_ready (rs:=[1]) (by kernel_rfl) (by simp) (AllReadyH.cons rfl (fun K' hK => ?_) AllReadyH.nil)
   rw [if_pos (by kernel_rfl)]
   go_simp;go_at_call 36;refine (HCk.out _ (zqaa HB.out hBw)).mono ?_; rintro r wb ⟨rfl,hb⟩; have hk:=hold8 hb hk; have hBw:=zqaa hBw hb; clear hb;refine hK.out _ _ hk (fun _ => ?_)
   try simp only [pS]
   refine tkA 2 14 (.bool false) rfl hk ?_;try simp only [pS]
   refine tkA 3 15 (.bool false) rfl hk ?_;try simp only [pS]
   refine tkA 4 16 (.int .u32 m) rfl hk ?_;try simp only [pS]
   refine tkA 5 17 (.agg #[.slice a1 S.ds.length c1,.slice a2 S.is.length c2,.slice a3 S.ns.length c3,.slice a4 S.vs.length c4]) rfl hk ?_;try simp only [pS]
   refine wpAnyH_ready (rs:=[6]) (by kernel_rfl) (by simp) (AllReadyH.cons rfl (fun K' hK => ?_) AllReadyH.nil)
   rw [if_pos (by kernel_rfl)]
   go_simp;go_at_call 30;refine (HFu.out _ (zqaa HB.out hBw) HN.out).mono ?_; rintro r wb ⟨rfl,hb⟩; have hk:=hold8 hb hk; have hBw:=zqaa hBw hb; clear hb;refine hK.out _ _ hk (fun _ => ?_)
   try simp only [pS]
   refine wpAnyH_ready (rs:=[7]) (by kernel_rfl) (by simp) (AllReadyH.cons rfl (fun K' hK => ?_) AllReadyH.nil)
   rw [if_pos (by kernel_rfl)]
   go_simp;go_at_call 37;refine (HSu.out _ HN.out).mono ?_; rintro r wb ⟨rfl,rfl⟩;refine hK.out _ _ hk (fun _ => ?_)
   try simp only [pS]
   refine tkA 8 20 (.bool true) rfl hk ?_;try simp only [pS]
   refine tkA 9 21 (.bool true) rfl hk ?_;try simp only [pS]
   refine tkA 10 22 (.bool true) rfl hk ?_;try simp only [pS]
   refine skA 11 23 (undef) rfl hk ?_;try simp only [pS]
   refine skA 12 24 (undef) rfl hk ?_;try simp only [pS]
   refine skA 13 25 (undef) rfl hk ?_;try simp only [pS]
   refine skA 14 26 (undef) rfl hk ?_;try simp only [pS]
   refine skA 15 27 (undef) rfl hk ?_;try simp only [pS]
   refine skA 16 28 (undef) rfl hk ?_;try simp only [pS]
   refine tkA 17 29 (.bool true) rfl hk ?_;try simp only [pS]
   refine tkA 18 30 (.bool true) rfl hk ?_;try simp only [pS]
   refine skA 19 31 (undef) rfl hk ?_;try simp only [pS]
   refine skA 20 32 (undef) rfl hk ?_;try simp only [pS]
   refine skA 21 33 (undef) rfl hk ?_;try simp only [pS]
   refine tkA 22 34 (.bool true) rfl hk ?_;try simp only [pS]
   refine tkA 23 35 (.bool true) rfl hk ?_;try simp only [pS]
   refine skA 24 36 (undef) rfl hk ?_;try simp only [pS]
   refine skA 25 37 (undef) rfl hk ?_;try simp only [pS]
   refine skA 26 38 (undef) rfl hk ?_;try simp only [pS]
   refine skA 27 39 (undef) rfl hk ?_;try simp only [pS]
   refine skA 28 40 (undef) rfl hk ?_;try simp only [pS]
   refine skA 29 41 (undef) rfl hk ?_;try simp only [pS]
   refine skA 30 42 (undef) rfl hk ?_;try simp only [pS]
   refine tkA 31 43 (.bool true) rfl hk ?_;try simp only [pS]
   refine tkA 32 44 (.bool true) rfl hk ?_;try simp only [pS]
   refine skA 33 45 (undef) rfl hk ?_;try simp only [pS]
   refine skA 34 46 (undef) rfl hk ?_;try simp only [pS]
   refine skA 35 47 (undef) rfl hk ?_;try simp only [pS]
   refine skA 36 48 (undef) rfl hk ?_;try simp only [pS]
   refine skA 37 49 (undef) rfl hk ?_;try simp only [pS]
   refine skA 38 50 (undef) rfl hk ?_;try simp only [pS]
   refine skA 39 51 (undef) rfl hk ?_;try simp only [pS]
   refine tkA 40 52 (.bool true) rfl hk ?_;try simp only [pS]
   refine wpAnyH_done (by kernel_rfl) ?_ _
   have HBe:=zh (zqaa HB.out hBw);clear hk hBw;go_wp2_with fail;go_ret;exact ⟨rfl,HBe.out⟩
  ·have hR0:R = (decide (c.key < keysL S.ds m S.ds.length) && decide (1 ≤ c.cnt) && decide (c.is.length = S.is.length) && decide (c.ns.length = S.ns.length) && allW c.is && allR c.ns):=HR.out.trans (by rw [decide_eq_true ⟨hc0,show m ≤ 2 ^ S.ds.length - 1 by omega⟩]; rfl)
   have HR2:=zh hR0;rw [decide_eq_true hm2] at HSu;generalize checkL S = CL at *;clear hc0 HR hm2 hR0;generalize keysL S.ds m S.ds.length = KL at *
   by_cases h1:c.key < KL
   rotate_left
   ·have d1:decide (KL ≤ c.key) = true:=decide_eq_true (by omega)
    have hR:R = false:=HR2.out.trans (by rw [decide_eq_false h1]; simp)
    subst hR;clear HR2 HI HQ HW HRr HWc h1;have hk:W.drew.cell? ⟨w.heap.size,0,none⟩ = some (.slice a1 S.ds.length c1) ∧ W.drew.cell? ⟨w.heap.size,1,none⟩ = some (.slice a2 S.is.length c2) ∧ W.drew.cell? ⟨w.heap.size,2,none⟩ = some (.slice a3 S.ns.length c3) ∧ W.drew.cell? ⟨w.heap.size,3,none⟩ = some (.slice a4 S.vs.length c4) ∧ W.drew.cell? ⟨w.heap.size + 1,0,none⟩ = some (.int .u64 c.key) ∧ W.drew.cell? ⟨w.heap.size + 1,1,none⟩ = some (.int .i64 c.cnt) ∧ W.drew.cell? ⟨w.heap.size + 1,2,none⟩ = some (.slice p c.is.length k1) ∧ W.drew.cell? ⟨w.heap.size + 1,3,none⟩ = some (.slice p2 c.ns.length k2):=⟨x0,x1,x2,x3,y0,y1,y2,y3⟩;have hBw:Below W.heap.size W W.drew:=(Below.refl _ _).drew;clear x0 x1 x2 x3 y0 y1 y2 y3;refine wp_region_held_drew (S:=fun w' => w'.cell? ⟨w.heap.size,0,none⟩ = some (.slice a1 S.ds.length c1) ∧ w'.cell? ⟨w.heap.size,1,none⟩ = some (.slice a2 S.is.length c2) ∧ w'.cell? ⟨w.heap.size,2,none⟩ = some (.slice a3 S.ns.length c3) ∧ w'.cell? ⟨w.heap.size,3,none⟩ = some (.slice a4 S.vs.length c4) ∧ w'.cell? ⟨w.heap.size + 1,0,none⟩ = some (.int .u64 c.key) ∧ w'.cell? ⟨w.heap.size + 1,1,none⟩ = some (.int .i64 c.cnt) ∧ w'.cell? ⟨w.heap.size + 1,2,none⟩ = some (.slice p c.is.length k1) ∧ w'.cell? ⟨w.heap.size + 1,3,none⟩ = some (.slice p2 c.ns.length k2)) (by kernel_rfl) hk (fun _ => ?_)
    refine tkA 0 12 (.agg #[.slice a1 S.ds.length c1,.slice a2 S.is.length c2,.slice a3 S.ns.length c3,.slice a4 S.vs.length c4]) rfl hk ?_;try simp only [pS]
    refine wpAnyH_ready (rs:=[1]) (by kernel_rfl) (by simp) (AllReadyH.cons rfl (fun K' hK => ?_) AllReadyH.nil)
    rw [if_pos (by kernel_rfl)]
    go_simp;go_at_call 36;refine (HCk.out _ (zqaa HB.out hBw)).mono ?_; rintro r wb ⟨rfl,hb⟩; have hk:=hold8 hb hk; have hBw:=zqaa hBw hb; clear hb;refine hK.out _ _ hk (fun _ => ?_)
    try simp only [pS]
    refine tkA 2 14 (.bool false) rfl hk ?_;try simp only [pS]
    refine tkA 3 15 (.bool false) rfl hk ?_;try simp only [pS]
    refine tkA 4 16 (.int .u32 m) rfl hk ?_;try simp only [pS]
    refine tkA 5 17 (.agg #[.slice a1 S.ds.length c1,.slice a2 S.is.length c2,.slice a3 S.ns.length c3,.slice a4 S.vs.length c4]) rfl hk ?_;try simp only [pS]
    refine wpAnyH_ready (rs:=[6]) (by kernel_rfl) (by simp) (AllReadyH.cons rfl (fun K' hK => ?_) AllReadyH.nil)
    rw [if_pos (by kernel_rfl)]
    go_simp;go_at_call 30;refine (HFu.out _ (zqaa HB.out hBw) HN.out).mono ?_; rintro r wb ⟨rfl,hb⟩; have hk:=hold8 hb hk; have hBw:=zqaa hBw hb; clear hb;refine hK.out _ _ hk (fun _ => ?_)
    try simp only [pS]
    refine wpAnyH_ready (rs:=[7]) (by kernel_rfl) (by simp) (AllReadyH.cons rfl (fun K' hK => ?_) AllReadyH.nil)
    rw [if_pos (by kernel_rfl)]
    go_simp;go_at_call 37;refine (HSu.out _ HN.out).mono ?_; rintro r wb ⟨rfl,rfl⟩;refine hK.out _ _ hk (fun _ => ?_)
    try simp only [pS]
    refine tkA 8 20 (.bool false) rfl hk ?_;try simp only [pS]
    refine tkA 9 21 (.bool false) rfl hk ?_;try simp only [pS]
    refine tkA 10 22 (.bool false) rfl hk ?_;try simp only [pS]
    refine tkA 11 23 ((.pointer (some ⟨w.heap.size + 1,0,none⟩))) rfl hk ?_;try simp only [pS]
    refine tkA 12 24 (.int .u64 c.key) rfl hk ?_;try simp only [pS]
    refine tkA 13 25 (.agg #[.slice a1 S.ds.length c1,.slice a2 S.is.length c2,.slice a3 S.ns.length c3,.slice a4 S.vs.length c4]) rfl hk ?_;try simp only [pS]
    refine tkA 14 26 (.int .u32 m) rfl hk ?_;try simp only [pS]
    refine wpAnyH_ready (rs:=[15]) (by kernel_rfl) (by simp) (AllReadyH.cons rfl (fun K' hK => ?_) AllReadyH.nil)
    rw [if_pos (by kernel_rfl)]
    go_simp;go_at_call 66;refine (HKe.out _ (zqaa HB.out hBw) HN.out HZ.out).mono ?_; rintro r wb ⟨rfl,hb⟩; have hk:=hold8 hb hk; have hBw:=zqaa hBw hb; clear hb;refine hK.out _ _ hk (fun _ => ?_)
    try simp only [pS]
    refine tkA 16 28 (.bool true) rfl hk ?_;try simp only [pS]
    refine tkA 17 29 (.bool true) rfl hk ?_;try simp only [pS]
    refine tkA 18 30 (.bool true) rfl hk ?_;try simp only [pS]
    refine skA 19 31 (undef) rfl hk ?_;try simp only [pS]
    refine skA 20 32 (undef) rfl hk ?_;try simp only [pS]
    refine skA 21 33 (undef) rfl hk ?_;try simp only [pS]
    refine tkA 22 34 (.bool true) rfl hk ?_;try simp only [pS]
    refine tkA 23 35 (.bool true) rfl hk ?_;try simp only [pS]
    refine skA 24 36 (undef) rfl hk ?_;try simp only [pS]
    refine skA 25 37 (undef) rfl hk ?_;try simp only [pS]
    refine skA 26 38 (undef) rfl hk ?_;try simp only [pS]
    refine skA 27 39 (undef) rfl hk ?_;try simp only [pS]
    refine skA 28 40 (undef) rfl hk ?_;try simp only [pS]
    refine skA 29 41 (undef) rfl hk ?_;try simp only [pS]
    refine skA 30 42 (undef) rfl hk ?_;try simp only [pS]
    refine tkA 31 43 (.bool true) rfl hk ?_;try simp only [pS]
    refine tkA 32 44 (.bool true) rfl hk ?_;try simp only [pS]
    refine skA 33 45 (undef) rfl hk ?_;try simp only [pS]
    refine skA 34 46 (undef) rfl hk ?_;try simp only [pS]
    refine skA 35 47 (undef) rfl hk ?_;try simp only [pS]
    refine skA 36 48 (undef) rfl hk ?_;try simp only [pS]
    refine skA 37 49 (undef) rfl hk ?_;try simp only [pS]
    refine skA 38 50 (undef) rfl hk ?_;try simp only [pS]
    refine skA 39 51 (undef) rfl hk ?_;try simp only [pS]
    refine tkA 40 52 (.bool true) rfl hk ?_;try simp only [pS]
    refine wpAnyH_done (by kernel_rfl) ?_ _
    have HBe:=zh (zqaa HB.out hBw);clear hk hBw;go_wp2_with fail;go_ret;exact ⟨rfl,HBe.out⟩
   ·have d1:decide (KL ≤ c.key) = false:=decide_eq_false (by omega)
    by_cases h2:1 ≤ c.cnt
    rotate_left
    ·have d2:decide (c.cnt < 1) = true:=decide_eq_true (by omega)
     have hR:R = false:=HR2.out.trans (by rw [decide_eq_false h2]; simp)
     subst hR;clear HR2 HI HQ HW HRr HWc h1 h2;have hk:W.drew.cell? ⟨w.heap.size,0,none⟩ = some (.slice a1 S.ds.length c1) ∧ W.drew.cell? ⟨w.heap.size,1,none⟩ = some (.slice a2 S.is.length c2) ∧ W.drew.cell? ⟨w.heap.size,2,none⟩ = some (.slice a3 S.ns.length c3) ∧ W.drew.cell? ⟨w.heap.size,3,none⟩ = some (.slice a4 S.vs.length c4) ∧ W.drew.cell? ⟨w.heap.size + 1,0,none⟩ = some (.int .u64 c.key) ∧ W.drew.cell? ⟨w.heap.size + 1,1,none⟩ = some (.int .i64 c.cnt) ∧ W.drew.cell? ⟨w.heap.size + 1,2,none⟩ = some (.slice p c.is.length k1) ∧ W.drew.cell? ⟨w.heap.size + 1,3,none⟩ = some (.slice p2 c.ns.length k2):=⟨x0,x1,x2,x3,y0,y1,y2,y3⟩;have hBw:Below W.heap.size W W.drew:=(Below.refl _ _).drew;clear x0 x1 x2 x3 y0 y1 y2 y3;refine wp_region_held_drew (S:=fun w' => w'.cell? ⟨w.heap.size,0,none⟩ = some (.slice a1 S.ds.length c1) ∧ w'.cell? ⟨w.heap.size,1,none⟩ = some (.slice a2 S.is.length c2) ∧ w'.cell? ⟨w.heap.size,2,none⟩ = some (.slice a3 S.ns.length c3) ∧ w'.cell? ⟨w.heap.size,3,none⟩ = some (.slice a4 S.vs.length c4) ∧ w'.cell? ⟨w.heap.size + 1,0,none⟩ = some (.int .u64 c.key) ∧ w'.cell? ⟨w.heap.size + 1,1,none⟩ = some (.int .i64 c.cnt) ∧ w'.cell? ⟨w.heap.size + 1,2,none⟩ = some (.slice p c.is.length k1) ∧ w'.cell? ⟨w.heap.size + 1,3,none⟩ = some (.slice p2 c.ns.length k2)) (by kernel_rfl) hk (fun _ => ?_)
     refine tkA 0 12 (.agg #[.slice a1 S.ds.length c1,.slice a2 S.is.length c2,.slice a3 S.ns.length c3,.slice a4 S.vs.length c4]) rfl hk ?_;try simp only [pS]
     refine wpAnyH_ready (rs:=[1]) (by kernel_rfl) (by simp) (AllReadyH.cons rfl (fun K' hK => ?_) AllReadyH.nil)
     rw [if_pos (by kernel_rfl)]
     go_simp;go_at_call 36;refine (HCk.out _ (zqaa HB.out hBw)).mono ?_; rintro r wb ⟨rfl,hb⟩; have hk:=hold8 hb hk; have hBw:=zqaa hBw hb; clear hb;refine hK.out _ _ hk (fun _ => ?_)
     try simp only [pS]
     refine tkA 2 14 (.bool false) rfl hk ?_;try simp only [pS]
     refine tkA 3 15 (.bool false) rfl hk ?_;try simp only [pS]
     refine tkA 4 16 (.int .u32 m) rfl hk ?_;try simp only [pS]
     refine tkA 5 17 (.agg #[.slice a1 S.ds.length c1,.slice a2 S.is.length c2,.slice a3 S.ns.length c3,.slice a4 S.vs.length c4]) rfl hk ?_;try simp only [pS]
     refine wpAnyH_ready (rs:=[6]) (by kernel_rfl) (by simp) (AllReadyH.cons rfl (fun K' hK => ?_) AllReadyH.nil)
     rw [if_pos (by kernel_rfl)]
     go_simp;go_at_call 30;refine (HFu.out _ (zqaa HB.out hBw) HN.out).mono ?_; rintro r wb ⟨rfl,hb⟩; have hk:=hold8 hb hk; have hBw:=zqaa hBw hb; clear hb;refine hK.out _ _ hk (fun _ => ?_)
     try simp only [pS]
     refine wpAnyH_ready (rs:=[7]) (by kernel_rfl) (by simp) (AllReadyH.cons rfl (fun K' hK => ?_) AllReadyH.nil)
     rw [if_pos (by kernel_rfl)]
     go_simp;go_at_call 37;refine (HSu.out _ HN.out).mono ?_; rintro r wb ⟨rfl,rfl⟩;refine hK.out _ _ hk (fun _ => ?_)
     try simp only [pS]
     refine tkA 8 20 (.bool false) rfl hk ?_;try simp only [pS]
     refine tkA 9 21 (.bool false) rfl hk ?_;try simp only [pS]
     refine tkA 10 22 (.bool false) rfl hk ?_;try simp only [pS]
     refine tkA 11 23 ((.pointer (some ⟨w.heap.size + 1,0,none⟩))) rfl hk ?_;try simp only [pS]
     refine tkA 12 24 (.int .u64 c.key) rfl hk ?_;try simp only [pS]
     refine tkA 13 25 (.agg #[.slice a1 S.ds.length c1,.slice a2 S.is.length c2,.slice a3 S.ns.length c3,.slice a4 S.vs.length c4]) rfl hk ?_;try simp only [pS]
     refine tkA 14 26 (.int .u32 m) rfl hk ?_;try simp only [pS]
     refine wpAnyH_ready (rs:=[15]) (by kernel_rfl) (by simp) (AllReadyH.cons rfl (fun K' hK => ?_) AllReadyH.nil)
     rw [if_pos (by kernel_rfl)]
     go_simp;go_at_call 66;refine (HKe.out _ (zqaa HB.out hBw) HN.out HZ.out).mono ?_; rintro r wb ⟨rfl,hb⟩; have hk:=hold8 hb hk; have hBw:=zqaa hBw hb; clear hb;refine hK.out _ _ hk (fun _ => ?_)
     try simp only [pS]
     refine tkA 16 28 (.bool false) rfl hk ?_;try simp only [pS]
     refine tkA 17 29 (.bool false) rfl hk ?_;try simp only [pS]
     refine tkA 18 30 (.bool false) rfl hk ?_;try simp only [pS]
     refine tkA 19 31 ((.pointer (some ⟨w.heap.size + 1,1,none⟩))) rfl hk ?_;try simp only [pS]
     refine tkA 20 32 (.int .i64 c.cnt) rfl hk ?_;try simp only [pS]
     refine tkA 21 33 (.bool true) rfl hk ?_;try simp only [pS]
     refine tkA 22 34 (.bool true) rfl hk ?_;try simp only [pS]
     refine tkA 23 35 (.bool true) rfl hk ?_;try simp only [pS]
     refine skA 24 36 (undef) rfl hk ?_;try simp only [pS]
     refine skA 25 37 (undef) rfl hk ?_;try simp only [pS]
     refine skA 26 38 (undef) rfl hk ?_;try simp only [pS]
     refine skA 27 39 (undef) rfl hk ?_;try simp only [pS]
     refine skA 28 40 (undef) rfl hk ?_;try simp only [pS]
     refine skA 29 41 (undef) rfl hk ?_;try simp only [pS]
     refine skA 30 42 (undef) rfl hk ?_;try simp only [pS]
     refine tkA 31 43 (.bool true) rfl hk ?_;try simp only [pS]
     refine tkA 32 44 (.bool true) rfl hk ?_;try simp only [pS]
     refine skA 33 45 (undef) rfl hk ?_;try simp only [pS]
     refine skA 34 46 (undef) rfl hk ?_;try simp only [pS]
     refine skA 35 47 (undef) rfl hk ?_;try simp only [pS]
     refine skA 36 48 (undef) rfl hk ?_;try simp only [pS]
     refine skA 37 49 (undef) rfl hk ?_;try simp only [pS]
     refine skA 38 50 (undef) rfl hk ?_;try simp only [pS]
     refine skA 39 51 (undef) rfl hk ?_;try simp only [pS]
     refine tkA 40 52 (.bool true) rfl hk ?_;try simp only [pS]
     refine wpAnyH_done (by kernel_rfl) ?_ _
     have HBe:=zh (zqaa HB.out hBw);clear hk hBw;go_wp2_with fail;go_ret;exact ⟨rfl,HBe.out⟩
    ·have d2:decide (c.cnt < 1) = false:=decide_eq_false (by omega)
     by_cases h3:c.is.length = S.is.length
     rotate_left
     ·have d3:((c.is.length:Int) != (S.is.length:Int)) = true:=by simp; omega
      have hR:R = false:=HR2.out.trans (by rw [decide_eq_false h3]; simp)
      subst hR;clear HR2 HI HQ HW HRr HWc h1 h2 h3;have hk:W.drew.cell? ⟨w.heap.size,0,none⟩ = some (.slice a1 S.ds.length c1) ∧ W.drew.cell? ⟨w.heap.size,1,none⟩ = some (.slice a2 S.is.length c2) ∧ W.drew.cell? ⟨w.heap.size,2,none⟩ = some (.slice a3 S.ns.length c3) ∧ W.drew.cell? ⟨w.heap.size,3,none⟩ = some (.slice a4 S.vs.length c4) ∧ W.drew.cell? ⟨w.heap.size + 1,0,none⟩ = some (.int .u64 c.key) ∧ W.drew.cell? ⟨w.heap.size + 1,1,none⟩ = some (.int .i64 c.cnt) ∧ W.drew.cell? ⟨w.heap.size + 1,2,none⟩ = some (.slice p c.is.length k1) ∧ W.drew.cell? ⟨w.heap.size + 1,3,none⟩ = some (.slice p2 c.ns.length k2):=⟨x0,x1,x2,x3,y0,y1,y2,y3⟩;have hBw:Below W.heap.size W W.drew:=(Below.refl _ _).drew;clear x0 x1 x2 x3 y0 y1 y2 y3;refine wp_region_held_drew (S:=fun w' => w'.cell? ⟨w.heap.size,0,none⟩ = some (.slice a1 S.ds.length c1) ∧ w'.cell? ⟨w.heap.size,1,none⟩ = some (.slice a2 S.is.length c2) ∧ w'.cell? ⟨w.heap.size,2,none⟩ = some (.slice a3 S.ns.length c3) ∧ w'.cell? ⟨w.heap.size,3,none⟩ = some (.slice a4 S.vs.length c4) ∧ w'.cell? ⟨w.heap.size + 1,0,none⟩ = some (.int .u64 c.key) ∧ w'.cell? ⟨w.heap.size + 1,1,none⟩ = some (.int .i64 c.cnt) ∧ w'.cell? ⟨w.heap.size + 1,2,none⟩ = some (.slice p c.is.length k1) ∧ w'.cell? ⟨w.heap.size + 1,3,none⟩ = some (.slice p2 c.ns.length k2)) (by kernel_rfl) hk (fun _ => ?_)
      refine tkA 0 12 (.agg #[.slice a1 S.ds.length c1,.slice a2 S.is.length c2,.slice a3 S.ns.length c3,.slice a4 S.vs.length c4]) rfl hk ?_;try simp only [pS]
      refine wpAnyH_ready (rs:=[1]) (by kernel_rfl) (by simp) (AllReadyH.cons rfl (fun K' hK => ?_) AllReadyH.nil)
      rw [if_pos (by kernel_rfl)]
      go_simp;go_at_call 36;refine (HCk.out _ (zqaa HB.out hBw)).mono ?_; rintro r wb ⟨rfl,hb⟩; have hk:=hold8 hb hk; have hBw:=zqaa hBw hb; clear hb;refine hK.out _ _ hk (fun _ => ?_)
      try simp only [pS]
      refine tkA 2 14 (.bool false) rfl hk ?_;try simp only [pS]
      refine tkA 3 15 (.bool false) rfl hk ?_;try simp only [pS]
      refine tkA 4 16 (.int .u32 m) rfl hk ?_;try simp only [pS]
      refine tkA 5 17 (.agg #[.slice a1 S.ds.length c1,.slice a2 S.is.length c2,.slice a3 S.ns.length c3,.slice a4 S.vs.length c4]) rfl hk ?_;try simp only [pS]
      refine wpAnyH_ready (rs:=[6]) (by kernel_rfl) (by simp) (AllReadyH.cons rfl (fun K' hK => ?_) AllReadyH.nil)
      rw [if_pos (by kernel_rfl)]
      go_simp;go_at_call 30;refine (HFu.out _ (zqaa HB.out hBw) HN.out).mono ?_; rintro r wb ⟨rfl,hb⟩; have hk:=hold8 hb hk; have hBw:=zqaa hBw hb; clear hb;refine hK.out _ _ hk (fun _ => ?_)
      try simp only [pS]
      refine wpAnyH_ready (rs:=[7]) (by kernel_rfl) (by simp) (AllReadyH.cons rfl (fun K' hK => ?_) AllReadyH.nil)
      rw [if_pos (by kernel_rfl)]
      go_simp;go_at_call 37;refine (HSu.out _ HN.out).mono ?_; rintro r wb ⟨rfl,rfl⟩;refine hK.out _ _ hk (fun _ => ?_)
      try simp only [pS]
      refine tkA 8 20 (.bool false) rfl hk ?_;try simp only [pS]
      refine tkA 9 21 (.bool false) rfl hk ?_;try simp only [pS]
      refine tkA 10 22 (.bool false) rfl hk ?_;try simp only [pS]
      refine tkA 11 23 ((.pointer (some ⟨w.heap.size + 1,0,none⟩))) rfl hk ?_;try simp only [pS]
      refine tkA 12 24 (.int .u64 c.key) rfl hk ?_;try simp only [pS]
      refine tkA 13 25 (.agg #[.slice a1 S.ds.length c1,.slice a2 S.is.length c2,.slice a3 S.ns.length c3,.slice a4 S.vs.length c4]) rfl hk ?_;try simp only [pS]
      refine tkA 14 26 (.int .u32 m) rfl hk ?_;try simp only [pS]
      refine wpAnyH_ready (rs:=[15]) (by kernel_rfl) (by simp) (AllReadyH.cons rfl (fun K' hK => ?_) AllReadyH.nil)
      rw [if_pos (by kernel_rfl)]
      go_simp;go_at_call 66;refine (HKe.out _ (zqaa HB.out hBw) HN.out HZ.out).mono ?_; rintro r wb ⟨rfl,hb⟩; have hk:=hold8 hb hk; have hBw:=zqaa hBw hb; clear hb;refine hK.out _ _ hk (fun _ => ?_)
      try simp only [pS]
      refine tkA 16 28 (.bool false) rfl hk ?_;try simp only [pS]
      refine tkA 17 29 (.bool false) rfl hk ?_;try simp only [pS]
      refine tkA 18 30 (.bool false) rfl hk ?_;try simp only [pS]
      refine tkA 19 31 ((.pointer (some ⟨w.heap.size + 1,1,none⟩))) rfl hk ?_;try simp only [pS]
      refine tkA 20 32 (.int .i64 c.cnt) rfl hk ?_;try simp only [pS]
      refine tkA 21 33 (.bool false) rfl hk ?_;try simp only [pS]
      refine tkA 22 34 (.bool false) rfl hk ?_;try simp only [pS]
      refine tkA 23 35 (.bool false) rfl hk ?_;try simp only [pS]
      refine tkA 24 36 ((.pointer (some ⟨w.heap.size + 1,2,none⟩))) rfl hk ?_;try simp only [pS]
      refine tkA 25 37 (.slice p c.is.length k1) rfl hk ?_;try simp only [pS]
      refine tkA 26 38 (.int .i64 c.is.length) rfl hk ?_;try simp only [pS]
      refine tkA 27 39 ((.pointer (some ⟨w.heap.size,1,none⟩))) rfl hk ?_;try simp only [pS]
      refine tkA 28 40 (.slice a2 S.is.length c2) rfl hk ?_;try simp only [pS]
      refine tkA 29 41 (.int .i64 S.is.length) rfl hk ?_;try simp only [pS]
      refine tkA 30 42 (.bool true) rfl hk ?_;try simp only [pS]
      refine tkA 31 43 (.bool true) rfl hk ?_;try simp only [pS]
      refine tkA 32 44 (.bool true) rfl hk ?_;try simp only [pS]
      refine skA 33 45 (undef) rfl hk ?_;try simp only [pS]
      refine skA 34 46 (undef) rfl hk ?_;try simp only [pS]
      refine skA 35 47 (undef) rfl hk ?_;try simp only [pS]
      refine skA 36 48 (undef) rfl hk ?_;try simp only [pS]
      refine skA 37 49 (undef) rfl hk ?_;try simp only [pS]
      refine skA 38 50 (undef) rfl hk ?_;try simp only [pS]
      refine skA 39 51 (undef) rfl hk ?_;try simp only [pS]
      refine tkA 40 52 (.bool true) rfl hk ?_;try simp only [pS]
      refine wpAnyH_done (by kernel_rfl) ?_ _
      have HBe:=zh (zqaa HB.out hBw);clear hk hBw;go_wp2_with fail;go_ret;exact ⟨rfl,HBe.out⟩
     ·have d3:((c.is.length:Int) != (S.is.length:Int)) = false:=by simp [h3]
      by_cases h4:c.ns.length = S.ns.length
      rotate_left
      ·have d4:((c.ns.length:Int) != (S.ns.length:Int)) = true:=by simp; omega
       have hR:R = false:=HR2.out.trans (by rw [decide_eq_false h4]; simp)
       subst hR;clear HR2 HI HQ HW HRr HWc h1 h2 h3 h4;have hk:W.drew.cell? ⟨w.heap.size,0,none⟩ = some (.slice a1 S.ds.length c1) ∧ W.drew.cell? ⟨w.heap.size,1,none⟩ = some (.slice a2 S.is.length c2) ∧ W.drew.cell? ⟨w.heap.size,2,none⟩ = some (.slice a3 S.ns.length c3) ∧ W.drew.cell? ⟨w.heap.size,3,none⟩ = some (.slice a4 S.vs.length c4) ∧ W.drew.cell? ⟨w.heap.size + 1,0,none⟩ = some (.int .u64 c.key) ∧ W.drew.cell? ⟨w.heap.size + 1,1,none⟩ = some (.int .i64 c.cnt) ∧ W.drew.cell? ⟨w.heap.size + 1,2,none⟩ = some (.slice p c.is.length k1) ∧ W.drew.cell? ⟨w.heap.size + 1,3,none⟩ = some (.slice p2 c.ns.length k2):=⟨x0,x1,x2,x3,y0,y1,y2,y3⟩;have hBw:Below W.heap.size W W.drew:=(Below.refl _ _).drew;clear x0 x1 x2 x3 y0 y1 y2 y3;refine wp_region_held_drew (S:=fun w' => w'.cell? ⟨w.heap.size,0,none⟩ = some (.slice a1 S.ds.length c1) ∧ w'.cell? ⟨w.heap.size,1,none⟩ = some (.slice a2 S.is.length c2) ∧ w'.cell? ⟨w.heap.size,2,none⟩ = some (.slice a3 S.ns.length c3) ∧ w'.cell? ⟨w.heap.size,3,none⟩ = some (.slice a4 S.vs.length c4) ∧ w'.cell? ⟨w.heap.size + 1,0,none⟩ = some (.int .u64 c.key) ∧ w'.cell? ⟨w.heap.size + 1,1,none⟩ = some (.int .i64 c.cnt) ∧ w'.cell? ⟨w.heap.size + 1,2,none⟩ = some (.slice p c.is.length k1) ∧ w'.cell? ⟨w.heap.size + 1,3,none⟩ = some (.slice p2 c.ns.length k2)) (by kernel_rfl) hk (fun _ => ?_)
       refine tkA 0 12 (.agg #[.slice a1 S.ds.length c1,.slice a2 S.is.length c2,.slice a3 S.ns.length c3,.slice a4 S.vs.length c4]) rfl hk ?_;try simp only [pS]
       refine wpAnyH_ready (rs:=[1]) (by kernel_rfl) (by simp) (AllReadyH.cons rfl (fun K' hK => ?_) AllReadyH.nil)
       rw [if_pos (by kernel_rfl)]
       go_simp;go_at_call 36;refine (HCk.out _ (zqaa HB.out hBw)).mono ?_; rintro r wb ⟨rfl,hb⟩; have hk:=hold8 hb hk; have hBw:=zqaa hBw hb; clear hb;refine hK.out _ _ hk (fun _ => ?_)
       try simp only [pS]
       refine tkA 2 14 (.bool false) rfl hk ?_;try simp only [pS]
       refine tkA 3 15 (.bool false) rfl hk ?_;try simp only [pS]
       refine tkA 4 16 (.int .u32 m) rfl hk ?_;try simp only [pS]
       refine tkA 5 17 (.agg #[.slice a1 S.ds.length c1,.slice a2 S.is.length c2,.slice a3 S.ns.length c3,.slice a4 S.vs.length c4]) rfl hk ?_;try simp only [pS]
       refine wpAnyH_ready (rs:=[6]) (by kernel_rfl) (by simp) (AllReadyH.cons rfl (fun K' hK => ?_) AllReadyH.nil)
       rw [if_pos (by kernel_rfl)]
       go_simp;go_at_call 30;refine (HFu.out _ (zqaa HB.out hBw) HN.out).mono ?_; rintro r wb ⟨rfl,hb⟩; have hk:=hold8 hb hk; have hBw:=zqaa hBw hb; clear hb;refine hK.out _ _ hk (fun _ => ?_)
       try simp only [pS]
       refine wpAnyH_ready (rs:=[7]) (by kernel_rfl) (by simp) (AllReadyH.cons rfl (fun K' hK => ?_) AllReadyH.nil)
       rw [if_pos (by kernel_rfl)]
       go_simp;go_at_call 37;refine (HSu.out _ HN.out).mono ?_; rintro r wb ⟨rfl,rfl⟩;refine hK.out _ _ hk (fun _ => ?_)
       try simp only [pS]
       refine tkA 8 20 (.bool false) rfl hk ?_;try simp only [pS]
       refine tkA 9 21 (.bool false) rfl hk ?_;try simp only [pS]
       refine tkA 10 22 (.bool false) rfl hk ?_;try simp only [pS]
       refine tkA 11 23 ((.pointer (some ⟨w.heap.size + 1,0,none⟩))) rfl hk ?_;try simp only [pS]
       refine tkA 12 24 (.int .u64 c.key) rfl hk ?_;try simp only [pS]
       refine tkA 13 25 (.agg #[.slice a1 S.ds.length c1,.slice a2 S.is.length c2,.slice a3 S.ns.length c3,.slice a4 S.vs.length c4]) rfl hk ?_;try simp only [pS]
       refine tkA 14 26 (.int .u32 m) rfl hk ?_;try simp only [pS]
       refine wpAnyH_ready (rs:=[15]) (by kernel_rfl) (by simp) (AllReadyH.cons rfl (fun K' hK => ?_) AllReadyH.nil)
       rw [if_pos (by kernel_rfl)]
       go_simp;go_at_call 66;refine (HKe.out _ (zqaa HB.out hBw) HN.out HZ.out).mono ?_; rintro r wb ⟨rfl,hb⟩; have hk:=hold8 hb hk; have hBw:=zqaa hBw hb; clear hb;refine hK.out _ _ hk (fun _ => ?_)
       try simp only [pS]
       refine tkA 16 28 (.bool false) rfl hk ?_;try simp only [pS]
       refine tkA 17 29 (.bool false) rfl hk ?_;try simp only [pS]
       refine tkA 18 30 (.bool false) rfl hk ?_;try simp only [pS]
       refine tkA 19 31 ((.pointer (some ⟨w.heap.size + 1,1,none⟩))) rfl hk ?_;try simp only [pS]
       refine tkA 20 32 (.int .i64 c.cnt) rfl hk ?_;try simp only [pS]
       refine tkA 21 33 (.bool false) rfl hk ?_;try simp only [pS]
       refine tkA 22 34 (.bool false) rfl hk ?_;try simp only [pS]
       refine tkA 23 35 (.bool false) rfl hk ?_;try simp only [pS]
       refine tkA 24 36 ((.pointer (some ⟨w.heap.size + 1,2,none⟩))) rfl hk ?_;try simp only [pS]
       refine tkA 25 37 (.slice p c.is.length k1) rfl hk ?_;try simp only [pS]
       refine tkA 26 38 (.int .i64 c.is.length) rfl hk ?_;try simp only [pS]
       refine tkA 27 39 ((.pointer (some ⟨w.heap.size,1,none⟩))) rfl hk ?_;try simp only [pS]
       refine tkA 28 40 (.slice a2 S.is.length c2) rfl hk ?_;try simp only [pS]
       refine tkA 29 41 (.int .i64 S.is.length) rfl hk ?_;try simp only [pS]
       refine tkA 30 42 (.bool false) rfl hk ?_;try simp only [pS]
       refine tkA 31 43 (.bool false) rfl hk ?_;try simp only [pS]
       refine tkA 32 44 (.bool false) rfl hk ?_;try simp only [pS]
       refine tkA 33 45 ((.pointer (some ⟨w.heap.size + 1,3,none⟩))) rfl hk ?_;try simp only [pS]
       refine tkA 34 46 (.slice p2 c.ns.length k2) rfl hk ?_;try simp only [pS]
       refine tkA 35 47 (.int .i64 c.ns.length) rfl hk ?_;try simp only [pS]
       refine tkA 36 48 ((.pointer (some ⟨w.heap.size,2,none⟩))) rfl hk ?_;try simp only [pS]
       refine tkA 37 49 (.slice a3 S.ns.length c3) rfl hk ?_;try simp only [pS]
       refine tkA 38 50 (.int .i64 S.ns.length) rfl hk ?_;try simp only [pS]
       refine tkA 39 51 (.bool true) rfl hk ?_;try simp only [pS]
       refine tkA 40 52 (.bool true) rfl hk ?_;try simp only [pS]
       refine wpAnyH_done (by kernel_rfl) ?_ _
       have HBe:=zh (zqaa HB.out hBw);clear hk hBw;go_wp2_with fail;go_ret;exact ⟨rfl,HBe.out⟩
      ·have d4:((c.ns.length:Int) != (S.ns.length:Int)) = false:=by simp [h4]
       have HG:=zh (fun (q1:∀ k,k < c.is.length → rightW (wg c.is k) = true) (q2:∀ k,k < c.ns.length → rightR (rg c.ns k) = true) => show R = true from HR2.out.trans (by rw [decide_eq_true h1,decide_eq_true h2,decide_eq_true h3,decide_eq_true h4,zqmh q1,zqmg q2]; rfl))
       clear HR2 h1 h2 h3 h4;have hk:W.drew.cell? ⟨w.heap.size,0,none⟩ = some (.slice a1 S.ds.length c1) ∧ W.drew.cell? ⟨w.heap.size,1,none⟩ = some (.slice a2 S.is.length c2) ∧ W.drew.cell? ⟨w.heap.size,2,none⟩ = some (.slice a3 S.ns.length c3) ∧ W.drew.cell? ⟨w.heap.size,3,none⟩ = some (.slice a4 S.vs.length c4) ∧ W.drew.cell? ⟨w.heap.size + 1,0,none⟩ = some (.int .u64 c.key) ∧ W.drew.cell? ⟨w.heap.size + 1,1,none⟩ = some (.int .i64 c.cnt) ∧ W.drew.cell? ⟨w.heap.size + 1,2,none⟩ = some (.slice p c.is.length k1) ∧ W.drew.cell? ⟨w.heap.size + 1,3,none⟩ = some (.slice p2 c.ns.length k2):=⟨x0,x1,x2,x3,y0,y1,y2,y3⟩;have hBw:Below W.heap.size W W.drew:=(Below.refl _ _).drew;clear x0 x1 x2 x3 y0 y1 y2 y3;refine wp_region_held_drew (S:=fun w' => w'.cell? ⟨w.heap.size,0,none⟩ = some (.slice a1 S.ds.length c1) ∧ w'.cell? ⟨w.heap.size,1,none⟩ = some (.slice a2 S.is.length c2) ∧ w'.cell? ⟨w.heap.size,2,none⟩ = some (.slice a3 S.ns.length c3) ∧ w'.cell? ⟨w.heap.size,3,none⟩ = some (.slice a4 S.vs.length c4) ∧ w'.cell? ⟨w.heap.size + 1,0,none⟩ = some (.int .u64 c.key) ∧ w'.cell? ⟨w.heap.size + 1,1,none⟩ = some (.int .i64 c.cnt) ∧ w'.cell? ⟨w.heap.size + 1,2,none⟩ = some (.slice p c.is.length k1) ∧ w'.cell? ⟨w.heap.size + 1,3,none⟩ = some (.slice p2 c.ns.length k2)) (by kernel_rfl) hk (fun _ => ?_)
       refine tkA 0 12 (.agg #[.slice a1 S.ds.length c1,.slice a2 S.is.length c2,.slice a3 S.ns.length c3,.slice a4 S.vs.length c4]) rfl hk ?_;try simp only [pS]
       refine wpAnyH_ready (rs:=[1]) (by kernel_rfl) (by simp) (AllReadyH.cons rfl (fun K' hK => ?_) AllReadyH.nil)
       rw [if_pos (by kernel_rfl)]
       go_simp;go_at_call 36;refine (HCk.out _ (zqaa HB.out hBw)).mono ?_; rintro r wb ⟨rfl,hb⟩; have hk:=hold8 hb hk; have hBw:=zqaa hBw hb; clear hb;refine hK.out _ _ hk (fun _ => ?_)
       try simp only [pS]
       refine tkA 2 14 (.bool false) rfl hk ?_;try simp only [pS]
       refine tkA 3 15 (.bool false) rfl hk ?_;try simp only [pS]
       refine tkA 4 16 (.int .u32 m) rfl hk ?_;try simp only [pS]
       refine tkA 5 17 (.agg #[.slice a1 S.ds.length c1,.slice a2 S.is.length c2,.slice a3 S.ns.length c3,.slice a4 S.vs.length c4]) rfl hk ?_;try simp only [pS]
       refine wpAnyH_ready (rs:=[6]) (by kernel_rfl) (by simp) (AllReadyH.cons rfl (fun K' hK => ?_) AllReadyH.nil)
       rw [if_pos (by kernel_rfl)]
       go_simp;go_at_call 30;refine (HFu.out _ (zqaa HB.out hBw) HN.out).mono ?_; rintro r wb ⟨rfl,hb⟩; have hk:=hold8 hb hk; have hBw:=zqaa hBw hb; clear hb;refine hK.out _ _ hk (fun _ => ?_)
       try simp only [pS]
       refine wpAnyH_ready (rs:=[7]) (by kernel_rfl) (by simp) (AllReadyH.cons rfl (fun K' hK => ?_) AllReadyH.nil)
       rw [if_pos (by kernel_rfl)]
       go_simp;go_at_call 37;refine (HSu.out _ HN.out).mono ?_; rintro r wb ⟨rfl,rfl⟩;refine hK.out _ _ hk (fun _ => ?_)
       try simp only [pS]
       refine tkA 8 20 (.bool false) rfl hk ?_;try simp only [pS]
       refine tkA 9 21 (.bool false) rfl hk ?_;try simp only [pS]
       refine tkA 10 22 (.bool false) rfl hk ?_;try simp only [pS]
       refine tkA 11 23 ((.pointer (some ⟨w.heap.size + 1,0,none⟩))) rfl hk ?_;try simp only [pS]
       refine tkA 12 24 (.int .u64 c.key) rfl hk ?_;try simp only [pS]
       refine tkA 13 25 (.agg #[.slice a1 S.ds.length c1,.slice a2 S.is.length c2,.slice a3 S.ns.length c3,.slice a4 S.vs.length c4]) rfl hk ?_;try simp only [pS]
       refine tkA 14 26 (.int .u32 m) rfl hk ?_;try simp only [pS]
       refine wpAnyH_ready (rs:=[15]) (by kernel_rfl) (by simp) (AllReadyH.cons rfl (fun K' hK => ?_) AllReadyH.nil)
       rw [if_pos (by kernel_rfl)]
       go_simp;go_at_call 66;refine (HKe.out _ (zqaa HB.out hBw) HN.out HZ.out).mono ?_; rintro r wb ⟨rfl,hb⟩; have hk:=hold8 hb hk; have hBw:=zqaa hBw hb; clear hb;refine hK.out _ _ hk (fun _ => ?_)
       try simp only [pS]
       refine tkA 16 28 (.bool false) rfl hk ?_;try simp only [pS]
       refine tkA 17 29 (.bool false) rfl hk ?_;try simp only [pS]
       refine tkA 18 30 (.bool false) rfl hk ?_;try simp only [pS]
       refine tkA 19 31 ((.pointer (some ⟨w.heap.size + 1,1,none⟩))) rfl hk ?_;try simp only [pS]
       refine tkA 20 32 (.int .i64 c.cnt) rfl hk ?_;try simp only [pS]
       refine tkA 21 33 (.bool false) rfl hk ?_;try simp only [pS]
       refine tkA 22 34 (.bool false) rfl hk ?_;try simp only [pS]
       refine tkA 23 35 (.bool false) rfl hk ?_;try simp only [pS]
       refine tkA 24 36 ((.pointer (some ⟨w.heap.size + 1,2,none⟩))) rfl hk ?_;try simp only [pS]
       refine tkA 25 37 (.slice p c.is.length k1) rfl hk ?_;try simp only [pS]
       refine tkA 26 38 (.int .i64 c.is.length) rfl hk ?_;try simp only [pS]
       refine tkA 27 39 ((.pointer (some ⟨w.heap.size,1,none⟩))) rfl hk ?_;try simp only [pS]
       refine tkA 28 40 (.slice a2 S.is.length c2) rfl hk ?_;try simp only [pS]
       refine tkA 29 41 (.int .i64 S.is.length) rfl hk ?_;try simp only [pS]
       refine tkA 30 42 (.bool false) rfl hk ?_;try simp only [pS]
       refine tkA 31 43 (.bool false) rfl hk ?_;try simp only [pS]
       refine tkA 32 44 (.bool false) rfl hk ?_;try simp only [pS]
       refine tkA 33 45 ((.pointer (some ⟨w.heap.size + 1,3,none⟩))) rfl hk ?_;try simp only [pS]
       refine tkA 34 46 (.slice p2 c.ns.length k2) rfl hk ?_;try simp only [pS]
       refine tkA 35 47 (.int .i64 c.ns.length) rfl hk ?_;try simp only [pS]
       refine tkA 36 48 ((.pointer (some ⟨w.heap.size,2,none⟩))) rfl hk ?_;try simp only [pS]
       refine tkA 37 49 (.slice a3 S.ns.length c3) rfl hk ?_;try simp only [pS]
       refine tkA 38 50 (.int .i64 S.ns.length) rfl hk ?_;try simp only [pS]
       refine tkA 39 51 (.bool false) rfl hk ?_;try simp only [pS]
       refine tkA 40 52 (.bool false) rfl hk ?_;try simp only [pS]
       refine wpAnyH_done (by kernel_rfl) ?_ _
       have HB1:=zh (zqaa HB.out hBw);have HY1:=zh (HY.out.below hBw);clear hk hBw HCk HFu HSu HKe HX HY HB HN HZ hcn d1 d2 d3 d4
       skip
       skip
       have hmi:c.is.length ≤ 9223372036854775807:=by obtain ⟨_,_,_,_,h,_⟩:=HI.out _ HB1.out; exact h
       have hmn:c.ns.length ≤ 9223372036854775807:=by obtain ⟨_,_,_,_,h,_⟩:=HQ.out _ HB1.out; exact h
       go_wp2_with fail;go_loopw [7] (fun i wr => ∃ k:Nat,k ≤ c.is.length ∧ i = .int .i64 k ∧ Hid (Below wb.heap.size wb wr) ∧ Hid (∀ j,j < k → rightW (wg c.is j) = true)) (fun i _ => c.is.length - (intOf i).toNat)
       case atStart => exact ⟨0,Nat.zero_le _,rfl,zh (Below.refl _ _),zh (fun j hj => by omega)⟩
       case round =>
        obtain ⟨k,hk,rfl,HBk,HJ⟩:=hrel;obtain ⟨-,-,z2,z3⟩:=(HY1.out.below HBk.out).reads;have HBw:=zh (zqaa HB1.out HBk.out)
        by_cases hlk:k < c.is.length
        ·have hlk':(k:Int) < (c.is.length:Int):=by omega
         obtain ⟨b,o,q,rfl,hq⟩:=(HI.out _ HBw.out).at hlk;have hle:Hid (k + 1 ≤ c.is.length):=zh (by omega)
         obtain ⟨f0,f1,f2,f3,f4,f5⟩:=hq;have HN0:=zh (HW.out k hlk);have HJn:=zh (fun (q:rightW (wg c.is k) = true) => fun j (hj:j < k + 1) => (if e:j = k then e ▸ q else HJ.out j (by omega):rightW (wg c.is j) = true))
         have hla:(wg c.is k).sq.length ≤ 9223372036854775807:=(HWc.out.wg hlk).len;have hxa:=(HWc.out.wg hlk).abs;have hsx:Hid (rightW (wg c.is k) = (decide (0 ≤ (wg c.is k).abs) && decide (-(wg c.is k).abs ≤ (wg c.is k).sum) && decide ((wg c.is k).sum ≤ (wg c.is k).abs) && decide ((wg c.is k).mn ≤ (wg c.is k).mx) && decide ((wg c.is k).sq.length ≤ 7) && tidyB (wg c.is k).sq)):=zh rfl;generalize rightW (wg c.is k) = RW at *;generalize (wg c.is k).sum = x0 at *;generalize (wg c.is k).abs = x1 at *;generalize (wg c.is k).mn = x3 at *;generalize (wg c.is k).mx = x4 at *;generalize (wg c.is k).sq = lx at *;have HF5:=zh f5;obtain ⟨pq,cq,rfl,-,-⟩:=f5;have HX5:=zh (heap_alloc_new wr (.cells #[.int .i64 x0,.int .i64 x1,.slice pq lx.length cq,.int .i64 x3,.int .i64 x4] 85));have HA:=zh (zqab wr (.cells #[.int .i64 x0,.int .i64 x1,.slice pq lx.length cq,.int .i64 x3,.int .i64 x4] 85));go_upto_region 7 with fail;generalize wr.alloc (.cells #[.int .i64 x0,.int .i64 x1,.slice pq lx.length cq,.int .i64 x3,.int .i64 x4] 85) = Wk at *;obtain ⟨e0,e1,e2,e3,e4⟩:=row5 HX5.out;have HBe:=zh (zqaa HBw.out HA.out);have HBn:=zh (zqaa HBk.out HA.out);have HF6:=zh (HF5.out.below HA.out);clear f0 f1 f2 f3 f4 HX5 z2 z3 HF5
         by_cases h1:x1 < 0
         ·skip
          have hR:=HN0.out (hsx.out.trans (by rw [decide_eq_false (show ¬ 0 ≤ x1 by omega)]; simp))
          subst hR;go_wp2_with fail;go_ret;exact ⟨rfl,HBe.out⟩
         ·have i1:IntKind.i64.wrap (-x1) = -x1:=IntWalk.i64_in _ (by have:=hxa; unfold I64 at this; omega)
          have i2:wrap64 (-x1) = -x1:=wrap64_in (by have:=hxa; unfold I64 at this; omega) (by omega)
          clear hxa
          by_cases h2:x1 < x0
          ·skip
           have hR:=HN0.out (hsx.out.trans (by rw [decide_eq_false (show ¬ x0 ≤ x1 by omega)]; simp))
           subst hR;go_wp2_with fail;go_ret;exact ⟨rfl,HBe.out⟩
          ·by_cases h3:x0 < -x1
           ·skip
            have hR:=HN0.out (hsx.out.trans (by rw [decide_eq_false (show ¬ -x1 ≤ x0 by omega)]; simp))
            subst hR;go_wp2_with fail;go_ret;exact ⟨rfl,HBe.out⟩
           ·by_cases h4:x4 < x3
            ·skip
             have hR:=HN0.out (hsx.out.trans (by rw [decide_eq_false (show ¬ x3 ≤ x4 by omega)]; simp))
             subst hR;go_wp2_with fail;go_ret;exact ⟨rfl,HBe.out⟩
            ·by_cases h5:7 < lx.length
             ·skip
              have hR:=HN0.out (hsx.out.trans (by rw [decide_eq_false (show ¬ lx.length ≤ 7 by omega)]; simp))
              subst hR;go_wp2_with fail;go_ret;exact ⟨rfl,HBe.out⟩
             ·have hr:=hsx.out;rw [decide_eq_true (show 0 ≤ x1 by omega),decide_eq_true (show -x1 ≤ x0 by omega),decide_eq_true (show x0 ≤ x1 by omega),decide_eq_true (show x3 ≤ x4 by omega),decide_eq_true (show lx.length ≤ 7 by omega)] at hr
              simp only [Bool.true_and] at hr
              by_cases h6:lx.length = 0
              ·have HJ2:=zh (HJn.out (hr.trans (by unfold tidyB; rw [decide_eq_true h6]; rfl)))
               have h7:¬ 0 < lx.length:=by omega
               clear HJn hr hsx HN0 h6;generalize lx.length = L at *;go_wp2_with fail;go_roundw
               case rel => exact ⟨k + 1,hle.out,by go_num,HBn,HJ2⟩
               case measure => simp [intOf]; omega
              ·have h7:0 < lx.length:=by omega
               obtain ⟨bq,oq,rfl,-,g1⟩:=HF6.out.cell (i:=lx.length - 1) (by omega)
               have ht:tidyB lx = decide (lx.getD (lx.length - 1) 0 ≠ 0):=by unfold tidyB; rw [decide_eq_false h6]; rfl
               rw [ht] at hr;clear ht h6;generalize lx.getD (lx.length - 1) 0 = y at *
               by_cases hy:y = 0
               ·subst hy;have hR:=HN0.out (hr.trans rfl);subst hR;clear HJn hr hsx HN0 HF6;generalize lx.length = L at *;go_wp2_with fail;go_ret;exact ⟨rfl,HBe.out⟩
               ·have HJ2:=zh (HJn.out (hr.trans (decide_eq_true hy)));have hyb:(y == 0) = false:=by simpa using hy
                clear HJn hr hsx HN0 HF6;generalize lx.length = L at *;go_wp2_with fail;go_roundw
                case rel => exact ⟨k + 1,hle.out,by go_num,HBn,HJ2⟩
                case measure => simp [intOf]; omega
        ·have:k = c.is.length:=by omega
         subst this;go_wp2_with fail;go_loopw [9] (fun i wr => ∃ k:Nat,k ≤ c.ns.length ∧ i = .int .i64 k ∧ Hid (Below wb.heap.size wb wr) ∧ Hid (∀ j,j < k → rightR (rg c.ns j) = true)) (fun i _ => c.ns.length - (intOf i).toNat)
         case atStart => exact ⟨0,Nat.zero_le _,rfl,HBk,zh (fun j hj => by omega)⟩
         case round =>
          obtain ⟨k,hk,rfl,HBl,HJ3⟩:=hrel;obtain ⟨-,-,-,z3⟩:=(HY1.out.below HBl.out).reads;have HBw2:=zh (zqaa HB1.out HBl.out)
          by_cases hlk:k < c.ns.length
          ·have hlk':(k:Int) < (c.ns.length:Int):=by omega
           obtain ⟨b,o,q,rfl,hq⟩:=(HQ.out _ HBw2.out).at hlk;have hle:Hid (k + 1 ≤ c.ns.length):=zh (by omega)
           obtain ⟨f0,f1,f2,f5⟩:=hq;have HN0:=zh (HRr.out k hlk);have HJn:=zh (fun (q:rightR (rg c.ns k) = true) => fun j (hj:j < k + 1) => (if e:j = k then e ▸ q else HJ3.out j (by omega):rightR (rg c.ns j) = true))
           have hsx:Hid (rightR (rg c.ns k) = (decide (errN (rg c.ns k).sum = 0) && !lessB (rg c.ns k).mx (rg c.ns k).mn)):=zh rfl;have HLs:=zh (fun w1 => zqgt (rg c.ns k).mx (rg c.ns k).mn w1 (HWc.out.rg hlk).mx (HWc.out.rg hlk).mn)
           have hbt:Bt5 (rg c.ns k).sum:=(HWc.out.rg hlk).sum;clear z2;generalize rightR (rg c.ns k) = RW at *;generalize lessB (rg c.ns k).mx (rg c.ns k).mn = ls at *;generalize (rg c.ns k).mn = x1 at *;generalize (rg c.ns k).mx = x2 at *;generalize (rg c.ns k).sum = lx at *;have HF5:=zh f5;obtain ⟨pq,cq,rfl,-,-⟩:=f5;have HP:=zh (zqf0 pq lx.length cq lx wr HF5.out hbt);clear HF5 hbt;go_wp2_with fail;refine HP.out.mono ?_; rintro e w3 hr;obtain ⟨b0,b1,b2,b3,b4,nb,sp,sn,sc,rfl,-,hb3⟩:=read14 hr;have hbA:=zqaa hb3 (zqab w3 (.cells #[.bool b0,.bool b1,.bool b2,.bool b3,.bool b4,.bool nb,.slice sp sn sc] 117));have HBe:=zh (zqaa HBw2.out hbA);have HBn:=zh (zqaa HBl.out hbA);have z3:=cell_later hbA z3;have f1:=cell_later hbA f1;have f2:=cell_later hbA f2;clear hr hb3 hbA f0 HP;go_upto_region 13 with fail;generalize w3.alloc (.cells #[.bool b0,.bool b1,.bool b2,.bool b3,.bool b4,.bool nb,.slice sp sn sc] 117) = Wk at *
           by_cases he:errN lx = 0
           ·have hE:((errN lx:Int) != 0) = false:=by rw [he]; rfl
            have hr:RW = (true && !ls):=hsx.out.trans (by rw [decide_eq_true he])
            clear he hsx;generalize errN lx = E at *;have HQk:=zh (fun n => And.intro (zqaa HBe.out ((Drawn.refl Wk).next n).below) (zqaa HBn.out ((Drawn.refl Wk).next n).below))
            cases ls with
            | true =>
             have hR:=HN0.out (hr.trans rfl);subst hR;clear HN0 HJn hr;go_quiet ((go_at_call 68; exact Calls.quiet_of (HLs.out _)));have HE:=zh (HQk.out nq);go_wp2;go_ret;exact ⟨rfl,HE.out.1⟩
            | false =>
             have HJ2:=zh (HJn.out (hr.trans rfl));clear HN0 HJn hr;go_quiet ((go_at_call 68; exact Calls.quiet_of (HLs.out _)));have HE:=zh (HQk.out nq);go_wp2;go_roundw
             case rel => exact ⟨k + 1,hle.out,by go_num,zh HE.out.2,HJ2⟩
             case measure => simp [intOf]; omega
           ·have hE:((errN lx:Int) != 0) = true:=by simp [he]
            have hR:=HN0.out (hsx.out.trans (by rw [decide_eq_false he]; rfl))
            subst hR;clear he hsx HN0 HJn;generalize errN lx = E at *;have HQk:=zh (fun n => zqaa HBe.out ((Drawn.refl Wk).next n).below)
            go_quiet (fail);have HE:=zh (HQk.out nq);go_wp2;go_ret;exact ⟨rfl,HE.out⟩
          ·have:k = c.ns.length:=by omega
           subst this;have hR:=HG.out HJ.out HJ3.out;subst hR;go_wp2_with fail;go_ret;exact ⟨rfl,HBw2.out⟩
end Go.Proofs.YtmnbljijnbhghaaGreatDoor
