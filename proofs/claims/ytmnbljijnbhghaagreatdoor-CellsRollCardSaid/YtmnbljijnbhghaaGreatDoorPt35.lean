/- Contracts that the law leans on: Celg Celh Celi. -/
import Derived.Test.YtmnbljijnbhghaaGreatDoorPt02
import Derived.Test.YtmnbljijnbhghaaGreatDoorPt26
import Derived.Test.YtmnbljijnbhghaaGreatDoorPt28
import Derived.Test.YtmnbljijnbhghaaGreatDoorPt30
import Derived.Test.YtmnbljijnbhghaaGreatDoorPt32
import Derived.Test.YtmnbljijnbhghaaGreatDoorPt34
namespace Go.Proofs.YtmnbljijnbhghaaGreatDoor
set_option maxRecDepth 100000
open Go.RowKit
set_option linter.unusedVariables false
set_option maxHeartbeats 8000000 in
theorem zqnl (w:World) (D I M V v:Value) (S:Sc) (m:Int) (l:List Ce) (h:Sch4 w D I M V S) (hw:SWf S) (h':Cells w v l) (hl:LsW l) (m0:0 ≤ m) (m1:m ≤ 4294967295) :
  Calls Tryz.prog 14 #[SchV D I M V,.int .u32 m,v] w fun e w' => e = .returned (.bool (rightL S m l)) ∧ Below w.heap.size w w':=by
 have HB:=zh (zqab w (SchO D I M V));have HX:=zh (zqau w D I M V);have HCk:=zh (fun w1 (hb:Below w.heap.size w w1) => zqjq w1 D I M V S (h.below hb) hw)
 have HFu:=zh (fun w1 (hb:Below w.heap.size w w1) (hn:S.ds.length ≤ 6) => zqll w1 D I M V S (h.below hb) hn)
 have HSu:=zh (fun w1 (hn:S.ds.length ≤ 6) => zqim w1 m S.ds.length hn m0 m1)
 have HP:=zh (fun w1 (hb:Below w.heap.size w w1) => zqhq w1 v l (h'.below hb))
 have HRc:=zh (fun w1 P Q k (hb:Below w.heap.size w w1) (hk:k < l.length) (hm:CeM w1 P Q (cg l k)) => zqnk w1 D I M V P Q S m (cg l k) (h.below hb) hw hm (hl.cg hk) m0 m1)
 have HC:=zh h';have HY:=zh (@zqfz S m l);have HN:=zh (@zqlm S m l);obtain ⟨⟨a1,c1,rfl⟩,⟨a2,c2,rfl⟩,⟨a3,c3,rfl⟩,a4,c4,rfl⟩:=h.slices;obtain ⟨a,cap,rfl,-,hmx,-⟩:=h';unfold fullL at HFu;generalize rightL S m l = R at *;clear h hw hl m0 m1;go_enter Tryz.func14,Tryz.ntmps14;go_upto_region 1 with fail;generalize w.alloc (SchO (.slice a1 S.ds.length c1) (.slice a2 S.is.length c2) (.slice a3 S.ns.length c3) (.slice a4 S.vs.length c4)) = W at *;obtain ⟨x0,x1,x2,x3⟩:=HX.out.reads;go_wp2_with fail;refine (HCk.out _ HB.out).mono ?_; rintro e w1 ⟨rfl,hb⟩;have HB1:=zh (zqaa HB.out hb);have HX1:=zh (HX.out.below hb);clear hb HCk x0 x1 x2 x3 HX HB
 by_cases hc0:checkL S = 0
 rotate_left
 ·have hR:=HN.out (fun q => hc0 q.1.1)
  subst hR;have hcn:((checkL S:Int) != 0) = true:=by simp [hc0]
  generalize checkL S = CL at *;clear hc0 HFu HSu HP HRc HY HN;go_wp2_with fail;go_ret;exact ⟨rfl,HB1.out⟩
 have HL6:=zh ((zqeb hc0).1);have HC0:=zh hc0;rw [hc0];clear hc0;obtain ⟨x0,x1,x2,x3⟩:=HX1.out.reads;go_wp2_with fail;refine (HFu.out _ HB1.out HL6.out).mono ?_; rintro e w2 ⟨rfl,hb⟩;have HB2:=zh (zqaa HB1.out hb);have HX2:=zh (HX1.out.below hb);clear hb HFu HX1 HB1 x0 x1 x2 x3;go_wp2_with fail;refine (HSu.out _ HL6.out).mono ?_; rintro e w2 ⟨rfl,rfl⟩
 by_cases hm:m < 2 ^ S.ds.length
 rotate_left
 ·have hR:=HN.out (fun q => hm (by have:=q.1.2; unfold fullL at this; omega))
  subst hR;have hd:decide (m < 2 ^ S.ds.length) = false:=decide_eq_false hm;clear hm HSu HP HRc HY HN;go_wp2_with fail;go_ret;exact ⟨rfl,HB2.out⟩
 have HKk:=zh (show checkL S = 0 ∧ m ≤ fullL S.ds from ⟨HC0.out,by unfold fullL; omega⟩)
 rw [decide_eq_true hm];clear hm HSu HC0 HL6;generalize (2:Int) ^ S.ds.length - 1 = FL at *;go_wp2_with fail;refine (HP.out _ HB2.out).mono ?_; rintro e w3 ⟨rfl,hb⟩;have HB3:=zh (zqaa HB2.out hb);have HX3:=zh (HX2.out.below hb);clear hb HP HX2 HB2;cases hri:risingB l with
 | false =>
  have hR:=HN.out (fun q => by rw [hri] at q; cases q.2.1)
  subst hR;clear HN HY HRc;go_wp2_with fail;go_ret;exact ⟨rfl,HB3.out⟩
 | true =>
  have HY2:=zh (fun q => HY.out.2 ⟨HKk.out,hri,q⟩)
  have HN2:=zh (fun k (hk:k < l.length) (e:rightC S m (cg l k) = false) => HN.out (fun q => by have:=q.2.2 k hk; rw [e] at this; cases this))
  clear HY HN hri HKk;go_wp2_with fail;go_loopw [7] (fun iv wr => ∃ k:Nat,k ≤ l.length ∧ iv = .int .i64 k ∧ Hid (Below w.heap.size w wr ∧ Box wr w.heap.size (.slice a1 S.ds.length c1) (.slice a2 S.is.length c2) (.slice a3 S.ns.length c3) (.slice a4 S.vs.length c4)) ∧ Hid (∀ j,j < k → rightC S m (cg l j) = true)) (fun iv _ => l.length - (intOf iv).toNat)
  case atStart => exact ⟨0,Nat.zero_le _,rfl,zh ⟨HB3.out,HX3.out⟩,zh (fun j hj => by omega)⟩
  case round =>
   obtain ⟨k,hk,rfl,HS,HJ⟩:=hrel
   by_cases hlk:k < l.length
   ·have hlk':(k:Int) < (l.length:Int):=by omega
    have hle:Hid (k + 1 ≤ l.length):=zh (by omega)
    obtain ⟨b,off,rfl,-,P,Q,hx⟩:=(HC.out.below HS.out.1).at hlk;have HBr:=zh HS.out.1;have HXr:=zh HS.out.2;have HCr:=zh (fun w1 hb => HRc.out w1 P Q k (zqaa HBr.out hb) hlk (hx.m.below hb))
    have HJ2:=zh (fun (e:rightC S m (cg l k) = true) => show ∀ j,j < k + 1 → rightC S m (cg l j) = true from fun j hj => if e2:j = k then by subst e2; exact e else HJ.out j (by omega))
    have HN3:=zh (HN2.out k hlk);obtain ⟨⟨p,d1,rfl⟩,q,d2,rfl⟩:=hx.m.slices;obtain ⟨f0,f1,f2,f3,-⟩:=hx;clear HS;generalize cg l k = c at *;obtain ⟨c0,cc1,cc2,cc3⟩:=c
    dsimp only at f0 f1 f2 f3
    obtain ⟨x0,x1,x2,x3⟩:=HXr.out.reads;go_upto_region 6 with fail;have hk8:wr.drew.cell? ⟨w.heap.size,0,none⟩ = some (.slice a1 S.ds.length c1) ∧ wr.drew.cell? ⟨w.heap.size,1,none⟩ = some (.slice a2 S.is.length c2) ∧ wr.drew.cell? ⟨w.heap.size,2,none⟩ = some (.slice a3 S.ns.length c3) ∧ wr.drew.cell? ⟨w.heap.size,3,none⟩ = some (.slice a4 S.vs.length c4) ∧ wr.drew.cell? ⟨b,off + k * 4,none⟩ = some (.int .u64 c0) ∧ wr.drew.cell? ⟨b,off + k * 4 + 1,none⟩ = some (.int .i64 cc1) ∧ wr.drew.cell? ⟨b,off + k * 4 + 2,none⟩ = some (.slice p cc2.length d1) ∧ wr.drew.cell? ⟨b,off + k * 4 + 3,none⟩ = some (.slice q cc3.length d2):=⟨x0,x1,x2,x3,f0,f1,f2,f3⟩;clear f0 f1 f2 f3 x0 x1 x2 x3;have hBw:Below wr.heap.size wr wr.drew:=(Below.refl _ _).drew;go_region_held3 (fun w' => w'.cell? ⟨w.heap.size,0,none⟩ = some (.slice a1 S.ds.length c1) ∧ w'.cell? ⟨w.heap.size,1,none⟩ = some (.slice a2 S.is.length c2) ∧ w'.cell? ⟨w.heap.size,2,none⟩ = some (.slice a3 S.ns.length c3) ∧ w'.cell? ⟨w.heap.size,3,none⟩ = some (.slice a4 S.vs.length c4) ∧ w'.cell? ⟨b,off + k * 4,none⟩ = some (.int .u64 c0) ∧ w'.cell? ⟨b,off + k * 4 + 1,none⟩ = some (.int .i64 cc1) ∧ w'.cell? ⟨b,off + k * 4 + 2,none⟩ = some (.slice p cc2.length d1) ∧ w'.cell? ⟨b,off + k * 4 + 3,none⟩ = some (.slice q cc3.length d2)) (with_reducible exact hk8)
     (first | (go_at_call 38; refine (HCr.out _ hBw).mono ?_; rintro e w1 ⟨rfl,hb1⟩; replace hk8:=hold8 hb1 hk8; have hBw:=zqaa hBw hb1; clear hb1))
    have HB4:=zh (zqaa HBr.out hBw);have HX4:=zh (HXr.out.below hBw);clear HCr hk8 hBw HXr HBr;generalize rightC S m ⟨c0,cc1,cc2,cc3⟩ = T at *;cases T with
    | true =>
     have HJ4:=zh (HJ2.out rfl);go_wp2_with fail;go_roundw
     case rel => exact ⟨k + 1,hle.out,by go_num,zh ⟨HB4.out,HX4.out⟩,HJ4⟩
     case measure => simp [intOf]; omega
    | false =>
     have hR:=HN3.out rfl;subst hR;go_wp2_with fail;go_ret;exact ⟨rfl,HB4.out⟩
   ·have:k = l.length:=by omega
    subst this;have hR:=HY2.out HJ.out;subst hR;go_wp2_with fail;go_ret;exact ⟨rfl,HS.out.1⟩
end Go.Proofs.YtmnbljijnbhghaaGreatDoor
namespace Go.Proofs.YtmnbljijnbhghaaGreatDoor
set_option maxRecDepth 100000
open Go.RowKit Go.ChangeShapes Go.WideShapes Go.Deep
set_option linter.unusedVariables false
def RowCe (w:World) (c:Ce) (cs:List Value):Prop:=∃ I N,cs = [.int .u64 c.key,.int .i64 c.cnt,I,N] ∧ CeM w I N c ∧ CeW c
theorem zqsg {H:Type} {enc:TypeId × Value → H} {w:World} {base:Nat} {spare:Nat → Bool} {held:Bool} {fuel:Nat} {cs:List Value} {x:DataW H × List MemPlace} {g0 g1 g2 g3:Field}
  (hT:Tryz.prog.underlying 38 = some (.struct #[g0,g1,g2,g3])) (hc:Tryz.prog.cellsOf 38 = 4) (o0:g0.offset = 0) (o1:g1.offset = 1) (o2:g2.offset = 2) (o3:g3.offset = 3)
  (y0:g0.type = 34) (y1:g1.type = 2) (y2:g2.type = 35) (y3:g3.type = 36)
  (c0':Tryz.prog.cellsOf 34 = 1) (c1':Tryz.prog.cellsOf 2 = 1) (c2':Tryz.prog.cellsOf 35 = 1) (c3':Tryz.prog.cellsOf 36 = 1)
  (h:DataW.trod enc Tryz.prog w base spare held fuel 38 cs = some x):∃ I N c,cs = [.int .u64 c.key,.int .i64 c.cnt,I,N] ∧ CeM w I N c ∧ CeW c:=by
 obtain ⟨xs,n,-,hx,hlen,hxl,hf⟩:=DataW.trod_struct hT h;rw [hc] at hlen
 match cs,hlen with
 | [c0,c1,c2,c3],_ =>
  match xs,hxl with
  | [z0,z1,z2,z3],_ =>
   have q0:=hf 0 g0 rfl;have q1:=hf 1 g1 rfl;have q2:=hf 2 g2 rfl;have q3:=hf 3 g3 rfl;rw [o0,y0,c0'] at q0;rw [o1,y1,c1'] at q1;rw [o2,y2,c2'] at q2;rw [o3,y3,c3'] at q3;obtain ⟨k,k0,-,w0⟩:=DataW.trod_int Tryz.underlying34 q0;obtain ⟨m,k1,-,w1⟩:=DataW.trod_int Tryz.underlying2 q1;obtain ⟨ls,k2,w2⟩:=zqvc (v:=c2) q2;obtain ⟨rs,k3,w3⟩:=zqxg (v:=c3) q3;obtain rfl:c0 = .int .u64 k:=by simpa using k0
   obtain rfl:c1 = .int .i64 m:=by simpa using k1
   exact ⟨c2,c3,⟨k,m,ls,rs⟩,rfl,⟨k2,k3⟩,⟨by simp [Lit.wf,IntKind.min,IntKind.max,IntKind.signed,IntKind.bits] at w0; omega,wf_i64 w1,w2,w3⟩⟩
theorem zqsh {H:Type} {enc:TypeId × Value → H} {w:World} {base:Nat} {spare:Nat → Bool} {held:Bool} {v:Value} {d:DataW H} {p:List MemPlace}
  (h:DataW.Trod enc Tryz.prog w base spare held 28 v d p) (hs:∃ a l c,v = .slice a l c):∃ l,Cells w v l ∧ LsW l:=by
 obtain ⟨a,n,c,rfl⟩:=hs;obtain ⟨fuel,h⟩:=h;obtain ⟨l,a,cap,e,h1,h2,h3,h4⟩:=zqie (n:=4) (RowCe w) ce0 (by decide) Tryz.underlying28 (by kernel_rfl)
  (fun {fuel cs x} h => by
   obtain ⟨I,N,c,e,k1,k2⟩:=zqsg Tryz.underlying38 (by kernel_rfl) rfl rfl rfl rfl rfl rfl rfl rfl (by kernel_rfl) (by kernel_rfl) (by kernel_rfl) (by kernel_rfl) h
   exact ⟨c,⟨I,N,e,k1,k2⟩,by rw [e]; rfl⟩) h
 rw [e];refine ⟨l,⟨a,cap,rfl,h1,h2,h4.imp id ?_⟩,fun z hz => ?_⟩
 ·rintro ⟨b,off,rfl,hlt,hc⟩;refine ⟨b,off,rfl,hlt,fun i hi => ?_⟩
  obtain ⟨cs,⟨I,N,rfl,hm,-⟩,hcell⟩:=hc i hi;rw [zqat hi];exact ⟨I,N,by first|(simp;done)|exact hcell 0 (by decide),by first|(simp;done)|exact hcell 1 (by decide),by first|(simp;done)|exact hcell 2 (by decide),by first|(simp;done)|exact hcell 3 (by decide),hm⟩
 ·obtain ⟨cs,I,N,-,-,hw⟩:=h3 z hz;exact hw
end Go.Proofs.YtmnbljijnbhghaaGreatDoor
namespace Go.Proofs.YtmnbljijnbhghaaGreatDoor
set_option maxRecDepth 100000
open Go.RowKit
set_option linter.unusedVariables false
theorem zqyl {l:List Ce} (hr:risingB l = true) {i n:Nat} {b:Bool} (hi:i < l.length) (h:FindP l (cg l i).key n b):n = i ∧ b = true:=by
 obtain ⟨h1,h2,h3,h4⟩:=h;have e:n = i:=by
  rcases Nat.lt_trichotomy n i with q | q | q
  ·have a:=h3 n (Nat.le_refl _) (by omega)
   have c:=zqew hr n i q hi;omega
  ·exact q
  ·have:=h2 i q; omega
 subst e;exact ⟨rfl,h4.2 ⟨hi,rfl⟩⟩
theorem zqwf {l:List Ce} (hr:risingB l = true) {i n:Nat} {b:Bool} (h0:0 < i) (hi:i < l.length) (hg:1 < (cg l i).key - (cg l (i - 1)).key) (h:FindP l ((cg l i).key - 1) n b):n = i ∧ b = false:=by
 obtain ⟨h1,h2,h3,h4⟩:=h;have e:n = i:=by
  rcases Nat.lt_trichotomy n i with q | q | q
  ·have a:=h3 n (Nat.le_refl _) (by omega)
   by_cases e:n = i - 1
   ·subst e; omega
   ·have c:=zqew hr n (i - 1) (by omega) (by omega)
    omega
  ·exact q
  ·have:=h2 i q; omega
 subst e;refine ⟨rfl,?_⟩;cases b with
 | false => rfl
 | true => have:=(h4.1 rfl).2; omega
theorem zqju (a:Ce):sameC a a = true:=same_iff.2 ⟨rfl,rfl,rfl,rfl,fun k _ => by simp [sameWh],fun k _ => by simp [sameRe,zqut]⟩
theorem zqsr (l:List Ce):eqsC l l = true:=by
 unfold eqsC;rw [decide_eq_true rfl,Bool.true_and];exact List.all_eq_true.2 fun x hx => zqju _
end Go.Proofs.YtmnbljijnbhghaaGreatDoor
