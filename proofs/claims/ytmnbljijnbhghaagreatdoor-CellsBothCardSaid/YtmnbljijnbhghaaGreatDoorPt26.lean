/- Contracts that the law leans on: Keyf Aggi Faci Facm. -/
import Derived.BigQuiet
import Derived.Deep.QuietTactic
import Derived.Deep.RegionHeld3
import Derived.Lib.ConvBytes
import Derived.Lib.SmallJoins
import Derived.Laws.CopyRow
import Derived.Laws.IdiomCopy
import Derived.Laws.OwnMore
import Derived.Laws.MakeOwn
import Derived.Lib.Bytealg
import Derived.Test.YtmnbljijnbhghaaGreatDoorPt02
import Derived.Test.YtmnbljijnbhghaaGreatDoorPt07
import Derived.Test.YtmnbljijnbhghaaGreatDoorPt08
import Derived.Test.YtmnbljijnbhghaaGreatDoorPt09
import Derived.Test.YtmnbljijnbhghaaGreatDoorPt10
import Derived.Test.YtmnbljijnbhghaaGreatDoorPt11
import Derived.Test.YtmnbljijnbhghaaGreatDoorPt23
import Derived.Test.YtmnbljijnbhghaaGreatDoorPt24
import Derived.Test.YtmnbljijnbhghaaGreatDoorPt25
namespace Go.Proofs.YtmnbljijnbhghaaGreatDoor
set_option maxRecDepth 100000
open Go.RowKit
set_option linter.unusedVariables false
set_option maxHeartbeats 8000000 in
theorem zqyr (w:World) (D I M V u:Value) (S:Sc) (m:Int) (l:List Int) (h:Sch4 w D I M V S) (hw:SWf S) (hu:Ints .i64 w u l) (m0:0 ≤ m) (m1:m ≤ 4294967295) :
  Calls Tryz.prog 95 #[SchV D I M V,.int .u32 m,u] w fun e w' => e = .returned (.tuple #[.int .u64 (ofL S m l),.int .i64 (ofE S m l)]) ∧ Below w.heap.size w w':=by
 have HB0:=zh (zqab w (SchO D I M V));have HX:=zh (zqau w D I M V);have HN:=zh (fun w1 (hb:Below w.heap.size w w1) => zqho w1 D I M V S m (h.below hb) hw m0 m1)
 obtain ⟨pu,cu,rfl,hcu,-⟩:=id hu;have HU:=zh hu
 by_cases hn:numE S m = 0
 ·rw [hn,if_pos rfl] at HN;have hy:=zqeb (zqg5 hn).1;have HH:=zh (fun w k hk => zqh9 w m k hk m0 m1)
  have hd:=h.d;have HD:=zh h.d;obtain ⟨⟨p,c,rfl⟩,⟨p2,c2,rfl⟩,⟨p3,c3,rfl⟩,p4,c4,rfl⟩:=h.slices
  by_cases hl:l.length = S.ds.length
  ·have HJ:=zh (fun w1 (hb:Below w.heap.size w w1) (hc:InG (dz S.ds) (cz l) (bitG m) S.ds.length) => zqk8 w1 _ _ S.ds m l (HD.out.below hb) (hu.below hb) (by omega) hl hy.2 hc m0 m1)
   have HE2:=zh (fun (q:rngB S.ds m l = false) => show ofE S m l = 2 ∧ ofL S m l = 0 by
    have hE:ofE S m l = 2:=by unfold ofE; rw [if_pos hn,if_pos hl,q]; rfl
    exact ⟨hE,by unfold ofL; rw [hE]; rfl⟩)
   have HE0:=zh (fun (q:rngB S.ds m l = true) => show ofE S m l = 0 ∧ ofL S m l = keyG (dz S.ds) (cz l) (bitG m) S.ds.length by
    have hE:ofE S m l = 0:=by unfold ofE; rw [if_pos hn,if_pos hl,if_pos q]
    exact ⟨hE,by unfold ofL; rw [if_pos hE]⟩)
   obtain ⟨a',cap',e',h1,h2,h3⟩:=hd;obtain ⟨rfl,rfl⟩:p = a' ∧ c = cap':=by injection e' with e1 e2 e3; exact ⟨e1,e3⟩
   have HC:=zh h3;have HG:=zh (@zqxh S.ds m l);have HI:=zh (@zquo S.ds m l);have HBd:=zh (fun k => @zqy7 S.ds m l k)
   have HAt:=zh (fun k => show rngAt S.ds m l k = (!bitG m k || (decide (0 ≤ cz l k) && decide (cz l k < dz S.ds k))) from rfl)
   rw [hl] at HJ;rw [hl] at HU;rw [hl] at hcu;rw [hl];generalize keysL S.ds m S.ds.length = ky at *;generalize keyG (dz S.ds) (cz l) (bitG m) S.ds.length = ans at *;generalize ofE S m l = oe at *;generalize ofL S m l = ol at *;generalize rngB S.ds m l = rb at *;have hn6:=hy.1;clear hn h hw e' h3 hy hu;go_enter Tryz.func95,Tryz.ntmps95;go_wp2_with fail;refine (HN.out _ HB0.out).mono ?_; rintro e w1 ⟨rfl,hb⟩;have HB1:=zh (zqaa HB0.out hb);have HX1:=zh (HX.out.below hb);obtain ⟨x0,x1,x2,x3⟩:=(HX.out.below hb).reads;clear hb;go_wp2_with fail;go_loopw [30] (fun i wr => ∃ k:Nat,k ≤ S.ds.length ∧ i = .int .i64 k ∧ Hid (Below w.heap.size w wr ∧ Box wr w.heap.size (.slice p S.ds.length c) (.slice p2 S.is.length c2) (.slice p3 S.ns.length c3) (.slice p4 S.vs.length c4)) ∧ Hid (∀ j,j < k → rngAt S.ds m l j = true)) (fun i _ => S.ds.length - (intOf i).toNat)
   case atStart => exact ⟨0,Nat.zero_le _,rfl,zh ⟨HB1.out,HX1.out⟩,zh (fun j hj => by omega)⟩
   case round =>
    obtain ⟨k,hk,rfl,HB,HJk⟩:=hrel;clear x0 x1 x2 x3
    by_cases hlk:k < S.ds.length
    ·rcases HC.out with h3 | ⟨b,off,rfl,hlt,hcell⟩
     ·rw [h3] at hlk; simp at hlk
     obtain ⟨c0,c1⟩:=hcell k hlk;have c0:wr.cell? ⟨b,off + k * 2,none⟩ = _:=(HB.out.1.cell (p:=⟨b,off + k * 2,none⟩) hlt).trans c0;have c1:wr.cell? ⟨b,off + k * 2 + 1,none⟩ = _:=(HB.out.1.cell (p:=⟨b,off + k * 2 + 1,none⟩) hlt).trans c1;obtain ⟨b2,o2,hp2,hb2,hc2⟩:=HU.out.cell (i:=k) (by omega)
     subst hp2;have hc2:=cell_later HB.out.1 hc2;have hc3:wr.cell? ⟨b2,o2 + k,none⟩ = some (.int .i64 (cz l k)):=hc2;have HHk:=zh (fun w => (HH.out w k (by omega)).mono fun _ _ h => And.intro h.1 h.2.symm)
     have HAk:=HAt.out k;have HBk:=zh (fun q => HBd.out k hlk q)
     have HNx:=zh (fun q:rngAt S.ds m l k = true => fun j (hj:j < k + 1) => if e:j = k then (e ▸ q:rngAt S.ds m l j = true) else HJk.out j (by omega))
     have hB1:=zqab wr (.cells #[.string (dn S.ds k),.int .i64 (dz S.ds k)] 68);have hc4:=cell_later hB1 hc3;have HB1k:=zh (And.intro (HB.out.1.alloc HB.out.1.size (.cells #[.string (dn S.ds k),.int .i64 (dz S.ds k)] 68)) (HB.out.2.below hB1));have hle:Hid (k + 1 ≤ S.ds.length):=zh (by omega)
     have hwr:=HB.out.1.size;clear hc2 hB1 hcell;generalize dn S.ds k = x at *;generalize dz S.ds k = z at *;generalize cz l k = y at *;generalize rngAt S.ds m l k = t at *;generalize bitG m k = bt at *;cases bt with
     | false =>
      have HNy:=zh (HNx.out (by rw [HAk]; rfl))
      clear HNx HBk HAk hc3 hc4;go_upto_region 9 with fail;go_quiet ((go_at_call 141; exact Calls.quiet_of_same (HHk.out _)));have HB2:=zh (And.intro (below_drewN HB1k.out.1 nq) (show Box ((wr.alloc (.cells #[.string x,.int .i64 z] 68)).drewN nq) w.heap.size _ _ _ _ from HB1k.out.2));go_wp2;go_roundw
      case rel => exact ⟨k + 1,hle.out,by go_num,HB2,HNy⟩
      case measure => simp [intOf]; omega
     | true =>
      by_cases hy0:y < 0
      ·have hR:=HE2.out (HBk.out (by rw [HAk,decide_eq_false (p:=0 ≤ y) (by omega)]; rfl))
       obtain ⟨rfl,rfl⟩:=hR;clear HNx HBk HAk;go_upto_region 9 with fail;go_quiet ((go_at_call 141; exact Calls.quiet_of_same (HHk.out _)));have HB2:=zh (below_drewN HB1k.out.1 nq);go_wp2;exact bodyPost_ret (v:=.tuple #[.int .u64 0,.int .i64 2]) (by simp [results,Tryz.results95,go_sem]) rfl ⟨rfl,HB2.out⟩
      ·by_cases hyz:z ≤ y
       ·have hR:=HE2.out (HBk.out (by rw [HAk,decide_eq_false (p:=y < z) (by omega)]; simp))
        obtain ⟨rfl,rfl⟩:=hR;clear HNx HBk HAk;go_upto_region 9 with fail;go_quiet ((go_at_call 141; exact Calls.quiet_of_same (HHk.out _)));have HB2:=zh (below_drewN HB1k.out.1 nq);go_wp2;exact bodyPost_ret (v:=.tuple #[.int .u64 0,.int .i64 2]) (by simp [results,Tryz.results95,go_sem]) rfl ⟨rfl,HB2.out⟩
       ·have HNy:=zh (HNx.out (by rw [HAk]; simp; omega))
        clear HNx HBk HAk;go_upto_region 9 with fail;go_quiet ((go_at_call 141; exact Calls.quiet_of_same (HHk.out _)));have HB2:=zh (And.intro (below_drewN HB1k.out.1 nq) (show Box ((wr.alloc (.cells #[.string x,.int .i64 z] 68)).drewN nq) w.heap.size _ _ _ _ from HB1k.out.2));go_wp2;go_roundw
        case rel => exact ⟨k + 1,hle.out,by go_num,HB2,HNy⟩
        case measure => simp [intOf]; omega
    ·have:k = S.ds.length:=by omega
     subst this;have hR:=HE0.out (HG.out HJk.out);obtain ⟨rfl,rfl⟩:=hR;have HQ:=zh (fun w1 hb => HJ.out w1 hb (HI.out HJk.out))
     obtain ⟨y0,y1,y2,y3⟩:=HB.out.2.reads;go_wp2_with fail;refine (HQ.out _ HB.out.1).mono ?_; rintro e w2 ⟨rfl,hb⟩;have HB2:=zh (zqaa HB.out.1 hb);clear hb;go_wp2_with fail;exact bodyPost_ret (v:=.tuple #[.int .u64 ol,.int .i64 0]) (by simp [results,Tryz.results95,go_sem]) rfl ⟨rfl,HB2.out⟩
  ·have hE:ofE S m l = 3:=by unfold ofE; rw [if_pos hn,if_neg hl]
   have hL:ofL S m l = 0:=by unfold ofL; rw [hE]; rfl
   rw [hE,hL];have hne:((l.length:Int) != (S.ds.length:Int)) = true:=by simp; omega
   generalize keysL S.ds m S.ds.length = ky at *;clear hn hE h hw hy HH hL hl hd HD;go_enter Tryz.func95,Tryz.ntmps95;go_wp2_with fail;refine (HN.out _ HB0.out).mono ?_; rintro e w1 ⟨rfl,hb⟩;have HB1:=zh (zqaa HB0.out hb);obtain ⟨x0,x1,x2,x3⟩:=(HX.out.below hb).reads;clear hb;go_wp2_with fail;exact bodyPost_ret (v:=.tuple #[.int .u64 0,.int .i64 3]) (by simp [results,Tryz.results95,go_sem]) rfl ⟨rfl,HB1.out⟩
 ·obtain ⟨⟨p,c,rfl⟩,⟨p2,c2,rfl⟩,⟨p3,c3,rfl⟩,p4,c4,rfl⟩:=h.slices;have hE:ofE S m l = numE S m:=by unfold ofE; rw [if_neg hn]
  have hL:ofL S m l = 0:=by unfold ofL; rw [hE,if_neg hn]
  rw [hE,hL];rw [if_neg hn] at HN;have hz:((numE S m:Int) != 0) = true:=by simp; omega
  generalize (numE S m:Int) = ne at *;clear hn hE h hw hL;go_enter Tryz.func95,Tryz.ntmps95;go_wp2_with fail;refine (HN.out _ HB0.out).mono ?_; rintro e w1 ⟨rfl,hb⟩;have HB1:=zh (zqaa HB0.out hb);clear hb;go_wp2_with fail;exact bodyPost_ret (v:=.tuple #[.int .u64 0,.int .i64 ne]) (by simp [results,Tryz.results95,go_sem]) rfl ⟨rfl,HB1.out⟩
end Go.Proofs.YtmnbljijnbhghaaGreatDoor
namespace Go.Proofs.YtmnbljijnbhghaaGreatDoor
set_option maxRecDepth 100000
open Go.ChangeShapes Go.WideShapes Go.ChangeAt Go.RowKit Go.Deep
set_option linter.unusedVariables false
section
variable {H : Type} {enc : TypeId × Value → H} {w : World} {base : Nat} {spare : Nat → Bool} {held : Bool}
def RowWh (w:World) (z:Wh) (cs:List Value):Prop:=∃ q,cs = [.int .i64 z.sum,.int .i64 z.abs,q,.int .i64 z.mn,.int .i64 z.mx] ∧ Ints .u32 w q z.sq ∧ WhW z
def RowRe (w:World) (z:Re) (cs:List Value):Prop:=∃ q,cs = [q,.float .f64 z.mn,.float .f64 z.mx] ∧ Ints .u8 w q z.sum ∧ ReW z
theorem wf_i64 {x:Int} (h:(Lit.int .i64 x).wf = true):I64 x:=by
 simp [Lit.wf,IntKind.min,IntKind.max,IntKind.signed,IntKind.bits] at h;unfold I64; omega
theorem zqrh {fuel:Nat} {cs:List Value} {x:DataW H × List MemPlace} {T E:TypeId} {g0 g1 g2 g3 g4:Field}
  (hT:Tryz.prog.underlying T = some (.struct #[g0,g1,g2,g3,g4])) (hc:Tryz.prog.cellsOf T = 5) (o0:g0.offset = 0) (o1:g1.offset = 1) (o2:g2.offset = 2) (o3:g3.offset = 3) (o4:g4.offset = 4)
  (h0:Tryz.prog.underlying g0.type = some (.int .i64)) (h1:Tryz.prog.underlying g1.type = some (.int .i64)) (h2:Tryz.prog.underlying g2.type = some (.slice E)) (h3:Tryz.prog.underlying g3.type = some (.int .i64)) (h4:Tryz.prog.underlying g4.type = some (.int .i64))
  (c0':Tryz.prog.cellsOf g0.type = 1) (c1':Tryz.prog.cellsOf g1.type = 1) (c2':Tryz.prog.cellsOf g2.type = 1) (c3':Tryz.prog.cellsOf g3.type = 1) (c4':Tryz.prog.cellsOf g4.type = 1)
  (e2:Tryz.prog.underlying E = some (.int .u32)) (d2:Tryz.prog.cellsOf E = 1)
  (h:DataW.trod enc Tryz.prog w base spare held fuel T cs = some x):∃ z,RowWh w z cs ∧ cs.length = 5:=by
 obtain ⟨xs,n,-,hx,hlen,hxl,hf⟩:=DataW.trod_struct hT h;rw [hc] at hlen
 match cs,hlen with
 | [c0,c1,c2,c3,c4],_ =>
  match xs,hxl with
  | [y0,y1,y2,y3,y4],_ =>
   have q0:=hf 0 g0 rfl;have q1:=hf 1 g1 rfl;have q2:=hf 2 g2 rfl;have q3:=hf 3 g3 rfl;have q4:=hf 4 g4 rfl;rw [o0,c0'] at q0;rw [o1,c1'] at q1;rw [o2,c2'] at q2;rw [o3,c3'] at q3;rw [o4,c4'] at q4;obtain ⟨a0,k0,-,w0⟩:=DataW.trod_int h0 q0;obtain ⟨a1,k1,-,w1⟩:=DataW.trod_int h1 q1;obtain ⟨a3,k3,-,w3⟩:=DataW.trod_int h3 q3;obtain ⟨a4,k4,-,w4⟩:=DataW.trod_int h4 q4;obtain ⟨l,hl,hw,hm⟩:=zqmz (v:=c2) h2 e2 d2 q2;obtain rfl:c0 = .int .i64 a0:=by simpa using k0
   obtain rfl:c1 = .int .i64 a1:=by simpa using k1
   obtain rfl:c3 = .int .i64 a3:=by simpa using k3
   obtain rfl:c4 = .int .i64 a4:=by simpa using k4
   exact ⟨⟨a0,a1,l,a3,a4⟩,⟨c2,rfl,hl,⟨wf_i64 w0,wf_i64 w1,fun z hz => by have:=hw z hz; simp [Lit.wf,IntKind.min,IntKind.max,IntKind.signed,IntKind.bits] at this; omega,hm,wf_i64 w3,wf_i64 w4⟩⟩,rfl⟩
theorem zqug {fuel:Nat} {cs:List Value} {x:DataW H × List MemPlace} {T E:TypeId} {g0 g1 g2:Field}
  (hT:Tryz.prog.underlying T = some (.struct #[g0,g1,g2])) (hc:Tryz.prog.cellsOf T = 3) (o0:g0.offset = 0) (o1:g1.offset = 1) (o2:g2.offset = 2)
  (h0:Tryz.prog.underlying g0.type = some (.slice E)) (h1:Tryz.prog.underlying g1.type = some (.float .f64)) (h2:Tryz.prog.underlying g2.type = some (.float .f64))
  (c0':Tryz.prog.cellsOf g0.type = 1) (c1':Tryz.prog.cellsOf g1.type = 1) (c2':Tryz.prog.cellsOf g2.type = 1)
  (e0:Tryz.prog.underlying E = some (.int .u8)) (d0:Tryz.prog.cellsOf E = 1)
  (h:DataW.trod enc Tryz.prog w base spare held fuel T cs = some x):∃ z,RowRe w z cs ∧ cs.length = 3:=by
 obtain ⟨xs,n,-,hx,hlen,hxl,hf⟩:=DataW.trod_struct hT h;rw [hc] at hlen
 match cs,hlen with
 | [c0,c1,c2],_ =>
  match xs,hxl with
  | [y0,y1,y2],_ =>
   have q0:=hf 0 g0 rfl;have q1:=hf 1 g1 rfl;have q2:=hf 2 g2 rfl;rw [o0,c0'] at q0;rw [o1,c1'] at q1;rw [o2,c2'] at q2;obtain ⟨l,hl,hw,hm⟩:=zqmz (v:=c0) h0 e0 d0 q0;obtain ⟨a1,k1,w1⟩:=zqnw h1 q1;obtain ⟨a2,k2,w2⟩:=zqnw h2 q2;obtain rfl:c1 = .float .f64 a1:=by simpa using k1
   obtain rfl:c2 = .float .f64 a2:=by simpa using k2
   exact ⟨⟨l,a1,a2⟩,⟨c0,rfl,hl,⟨fun z hz => by have:=hw z hz; simp [Lit.wf,IntKind.min,IntKind.max,IntKind.signed,IntKind.bits] at this; omega,hm,by simpa [Lit.wf,W64] using w1,by simpa [Lit.wf,W64] using w2⟩⟩,rfl⟩
theorem zqvc {fuel:Nat} {v:Value} {x:DataW H × List MemPlace} (h:DataW.trod enc Tryz.prog w base spare held fuel 35 [v] = some x):∃ l,Wholes w v l ∧ ∀ z ∈ l,WhW z:=by
 obtain ⟨l,a,cap,rfl,h1,h2,h3,h4⟩:=zqie (n:=5) (RowWh w) wh0 (by decide) Tryz.underlying35 (by kernel_rfl)
  (fun h => zqrh Tryz.underlying85 (by kernel_rfl) rfl rfl rfl rfl rfl Tryz.underlying2 Tryz.underlying2 Tryz.underlying24 Tryz.underlying2 Tryz.underlying2 (by kernel_rfl) (by kernel_rfl) (by kernel_rfl) (by kernel_rfl) (by kernel_rfl) Tryz.underlying27 (by kernel_rfl) h) h
 refine ⟨l,⟨a,cap,rfl,h1,h2,h4.imp id ?_⟩,fun z hz => ?_⟩
 ·rintro ⟨b,off,rfl,hlt,hc⟩;refine ⟨b,off,rfl,hlt,fun i hi => ?_⟩
  obtain ⟨cs,⟨q,rfl,hq,-⟩,hcell⟩:=hc i hi;rw [zqaq hi];exact ⟨q,by simpa using hcell 0 (by decide),by simpa using hcell 1 (by decide),by simpa using hcell 2 (by decide),by simpa using hcell 3 (by decide),by simpa using hcell 4 (by decide),hq⟩
 ·obtain ⟨cs,q,-,-,hw⟩:=h3 z hz;exact hw
theorem zqxg {fuel:Nat} {v:Value} {x:DataW H × List MemPlace} (h:DataW.trod enc Tryz.prog w base spare held fuel 36 [v] = some x):∃ l,Reals w v l ∧ ∀ z ∈ l,ReW z:=by
 obtain ⟨l,a,cap,rfl,h1,h2,h3,h4⟩:=zqie (n:=3) (RowRe w) re0 (by decide) Tryz.underlying36 (by kernel_rfl)
  (fun h => zqug Tryz.underlying90 (by kernel_rfl) rfl rfl rfl Tryz.underlying87 Tryz.underlying88 Tryz.underlying88 (by kernel_rfl) (by kernel_rfl) (by kernel_rfl) Tryz.underlying5 (by kernel_rfl) h) h
 refine ⟨l,⟨a,cap,rfl,h1,h2,h4.imp id ?_⟩,fun z hz => ?_⟩
 ·rintro ⟨b,off,rfl,hlt,hc⟩;refine ⟨b,off,rfl,hlt,fun i hi => ?_⟩
  obtain ⟨cs,⟨q,rfl,hq,-⟩,hcell⟩:=hc i hi;rw [zqap hi];exact ⟨q,by simpa using hcell 0 (by decide),by simpa using hcell 1 (by decide),by simpa using hcell 2 (by decide),hq⟩
 ·obtain ⟨cs,q,-,-,hw⟩:=h3 z hz;exact hw
end
end Go.Proofs.YtmnbljijnbhghaaGreatDoor
namespace Go.Proofs.YtmnbljijnbhghaaGreatDoor
set_option maxRecDepth 100000
open Go.RowKit
set_option linter.unusedVariables false
theorem zqyg {xs ys:List Int} (hn:xs.length = ys.length) (h:∀ j,j < xs.length → xs.getD j 0 = ys.getD j 0):decide (xs = ys) = true:=by
 rw [decide_eq_true_iff];apply List.ext_getElem hn;intro i h1 h2;have:=h i h1;simpa [List.getD,h1,h2] using this
theorem zqz0 {xs ys:List Int} {k:Nat} (h:xs.getD k 0 ≠ ys.getD k 0):decide (xs = ys) = false:=by
 rw [decide_eq_false_iff_not];intro e; rw [e] at h; exact h rfl
theorem zqz1 {xs ys:List Int} (h:xs.length ≠ ys.length):decide (xs = ys) = false:=by
 rw [decide_eq_false_iff_not];intro e; rw [e] at h; exact h rfl
abbrev FaO (C I N:Value):Obj:=.cells #[C,I,N] 73
def FBox (w:World) (K:Nat) (C I N:Value):Prop:=w.heap[K]? = some (.cells #[C,I,N] 73 (0,0))
theorem FBox.reads {w:World} {K:Nat} {C I N:Value} (h:FBox w K C I N):w.cell? ⟨K,0,none⟩ = some C ∧ w.cell? ⟨K,1,none⟩ = some I ∧ w.cell? ⟨K,2,none⟩ = some N:=by
 unfold FBox at h;refine ⟨by simp [World.cell?,h],by simp [World.cell?,h],by simp [World.cell?,h]⟩
theorem FBox.free {w:World} {K:Nat} {C I N:Value} (h:FBox w K C I N):w.frozen? ⟨K,0,none⟩ = false ∧ w.frozen? ⟨K,1,none⟩ = false ∧ w.frozen? ⟨K,2,none⟩ = false:=by
 unfold FBox at h;refine ⟨by simp [World.frozen?,h],by simp [World.frozen?,h],by simp [World.frozen?,h]⟩
theorem FBox.lt {w:World} {K:Nat} {C I N:Value} (h:FBox w K C I N):K < w.heap.size:=(Array.getElem?_eq_some_iff.1 h).1
theorem FBox.below {w w':World} {K:Nat} {C I N:Value} (h:FBox w K C I N) (hb:Below w.heap.size w w'):FBox w' K C I N:=by
 unfold FBox; rw [hb.block K h.lt]; exact h
theorem FBox.grown {w w':World} {K M:Nat} {C I N:Value} (h:FBox w K C I N) (hg:w.grownBy w' (some M)) (hne:K ≠ M):FBox w' K C I N:=by
 unfold FBox; rw [hg.block K h.lt (by simpa using hne)]; exact h
theorem FBox.set0 {w:World} {K:Nat} {C I N u:Value} (h:FBox w K C I N):FBox (w.setCell ⟨K,0,none⟩ u) K u I N:=heap_setCell_same w K 0 _ _ u h
theorem FBox.set1 {w:World} {K:Nat} {C I N u:Value} (h:FBox w K C I N):FBox (w.setCell ⟨K,1,none⟩ u) K C u N:=heap_setCell_same w K 1 _ _ u h
theorem zqwe (w:World) (C I N:Value):FBox (w.alloc (FaO C I N)) w.heap.size C I N:=heap_alloc_new w _
set_option maxRecDepth 100000
open Go.RowKit
set_option linter.unusedVariables false
set_option maxRecDepth 100000
open Go.RowKit
set_option linter.unusedVariables false
end Go.Proofs.YtmnbljijnbhghaaGreatDoor
namespace Go.Proofs.YtmnbljijnbhghaaGreatDoor
set_option maxRecDepth 100000
open Go.RowKit
set_option linter.unusedVariables false
theorem zqnn (w:World) (D I M V C J N:Value) (W:World) (hW:(w.alloc (SchO D I M V)).alloc (FaO C J N) = W) :
  Below w.heap.size w W ∧ Box W w.heap.size D I M V ∧ FBox W (w.heap.size + 1) C J N:=by
 subst hW;have hz:(w.alloc (SchO D I M V)).heap.size = w.heap.size + 1:=by simp
 have k2:=zqwe (w.alloc (SchO D I M V)) C J N;rw [hz] at k2;exact ⟨zqaa (zqab _ _) (zqab _ _),(zqau w D I M V).below (zqab _ _),k2⟩
theorem zqh4 {S:Sc} {f:Fa} (h:f.cs.length ≠ S.ds.length ∨ f.is.length ≠ S.is.length ∨ f.ns.length ≠ S.ns.length):((fitsL S f:Nat):Int) = 3:=by
 unfold fitsL; rw [if_pos h]; rfl
theorem zqpg {S:Sc} {f:Fa} (h1:f.cs.length = S.ds.length) (h2:f.is.length = S.is.length) (h3:f.ns.length = S.ns.length):fitsL S f = if codB S.ds f.cs = true then 0 else 2:=by
 unfold fitsL; rw [if_neg (by omega)]
theorem zqwg {S:Sc} {f:Fa} (h1:f.cs.length = S.ds.length) (h2:f.is.length = S.is.length) (h3:f.ns.length = S.ns.length) {k:Nat} (hk:k < f.cs.length) (h:codAt S.ds f.cs k = false):((fitsL S f:Nat):Int) = 2:=by
 rw [zqpg h1 h2 h3,if_neg (by rw [zqya hk h]; decide)]; rfl
theorem zqsu {S:Sc} {f:Fa} (h1:f.cs.length = S.ds.length) (h2:f.is.length = S.is.length) (h3:f.ns.length = S.ns.length) (h:∀ j,j < f.cs.length → codAt S.ds f.cs j = true):((fitsL S f:Nat):Int) = 0:=by
 rw [zqpg h1 h2 h3,if_pos (zqvr h)]; rfl
theorem zqzx {ds:List (ByteArray × Int)} {cs:List Int} {k:Nat} (h:cs.getD k 0 < 0):codAt ds cs k = false:=by
 unfold codAt; rw [decide_eq_false (by omega)]; rfl
theorem zqzw {ds:List (ByteArray × Int)} {cs:List Int} {k:Nat} (h:dz ds k ≤ cs.getD k 0):codAt ds cs k = false:=by
 unfold codAt; rw [decide_eq_false (p:=cs.getD k 0 < dz ds k) (by omega)]; simp
theorem zqzy {ds:List (ByteArray × Int)} {cs:List Int} {k:Nat} (h0:¬ cs.getD k 0 < 0) (h:¬ dz ds k ≤ cs.getD k 0):codAt ds cs k = true:=by
 unfold codAt; rw [decide_eq_true (by omega),decide_eq_true (p:=cs.getD k 0 < dz ds k) (by omega)]; rfl
theorem zqu8 {P:Nat → Prop} {k:Nat} (h:∀ j,j < k → P j) (hk:P k):∀ j,j < k + 1 → P j:=fun j hj => if h0:j < k then h j h0 else by
 have e:j = k:=by omega
 rw [e]; exact hk
set_option maxHeartbeats 8000000 in
theorem zqra (w:World) (D I M V C J N:Value) (S:Sc) (f:Fa) (h:Sch4 w D I M V S) (h':Fact3 w C J N f) (hf:FaWf f) :
  Calls Tryz.prog 140 #[SchV D I M V,FactV C J N] w fun e w' => e = .returned (.int .i64 (fitsL S f:Nat)) ∧ Below w.heap.size w w':=by
 obtain ⟨W,hW⟩:∃ W,(w.alloc (SchO D I M V)).alloc (FaO C J N) = W:=⟨_,rfl⟩
 obtain ⟨hb,hx,hx'⟩:=zqnn w D I M V C J N W hW;have HB:=zh hb;have HX:=zh (And.intro hx hx');obtain ⟨⟨a,c,rfl⟩,⟨a2,c2,rfl⟩,⟨a3,c3,rfl⟩,a4,c4,rfl⟩:=h.slices;obtain ⟨⟨b,d,rfl⟩,⟨b2,d2,rfl⟩,b3,d3,rfl⟩:=h'.slices;obtain ⟨x0,x1,x2,x3⟩:=hx.reads;obtain ⟨y0,y1,y2⟩:=hx'.reads
 by_cases n1:f.cs.length = S.ds.length
 ·by_cases n2:f.is.length = S.is.length
  ·by_cases n3:f.ns.length = S.ns.length
   ·obtain ⟨a',cap',e',-,-,h3⟩:=h.d.below hb;injection e' with e1 e2 e3;subst e1 e3;have HC:=zh h3;clear h3 e2;obtain ⟨a',cap',e',-,h3⟩:=h'.c.below hb;injection e' with e1 e2 e3;subst e1 e3;have HC':=zh h3;clear h3 e2;have HY:=zh (fun h => zqsu n1 n2 n3 h)
    have HE:=zh (fun k hk h => zqwg n1 n2 n3 (k:=k) hk h)
    have HQ:=zh n1;have hl:=hf.l.1;rw [n1] at HX y0 hW ⊢;rw [n2] at HX y1 hW ⊢;rw [n3] at HX y2 hW ⊢;rw [n1] at HC' HY hl;clear h h' hb hx hx' hf n1 n2 n3;generalize ((fitsL S f:Nat):Int) = R at *;go_enter Tryz.func140,Tryz.ntmps140;go_wp2_with fail;clear x0 x1 x2 x3 y0 y1 y2 hW;go_loopw [35] (fun i wr => ∃ k:Nat,k ≤ S.ds.length ∧ i = .int .i64 k ∧ Hid (Drawn W wr) ∧ Hid (∀ j,j < k → codAt S.ds f.cs j = true)) (fun i _ => S.ds.length - (intOf i).toNat)
    case atStart => exact ⟨0,Nat.zero_le _,rfl,zh (Drawn.refl _),zh (fun j hj => by omega)⟩
    case round =>
     obtain ⟨k,hk,rfl,HD,HJ⟩:=hrel;obtain ⟨x0,x1,x2,x3⟩:=(HX.out.1.below HD.out.below).reads;obtain ⟨y0,y1,y2⟩:=(HX.out.2.below HD.out.below).reads
     by_cases hlk:k < S.ds.length
     ·have hlk':(k:Int) < (S.ds.length:Int):=by omega
      have HK2:=zh (show k < f.cs.length by rw [HQ.out]; exact hlk)
      rcases HC.out with h3 | ⟨bb,off,rfl,hlt,hc⟩
      ·rw [h3] at hlk; simp at hlk
      rcases HC'.out with h3 | ⟨bb',off',rfl,hlt',hc'⟩
      ·have hn:=HK2.out; rw [h3] at hn; simp at hn
      have hx:=(HD.out.below.cell (p:=⟨bb,off + k * 2 + 1,none⟩) hlt).trans (hc k hlk).2;have hx':=(HD.out.below.cell (p:=⟨bb',off' + k,none⟩) hlt').trans (hc' k hlk);have HN:=zh (fun n => HD.out.next n)
      have HE2:=zh (fun h => HE.out k HK2.out h)
      clear hc hc'
      by_cases c1:f.cs.getD k 0 < 0
      ·have hR:=HE2.out (zqzx c1);subst hR;have e1:decide (f.cs.getD k 0 < 0) = true:=decide_eq_true c1;generalize f.cs.getD k 0 = x at hx' c1 e1;generalize dz S.ds k = z at hx;go_wp2_with fail;go_ret;exact ⟨rfl,zqaa HB.out HD.out.below⟩
      ·by_cases c2:dz S.ds k ≤ f.cs.getD k 0
       ·have hR:=HE2.out (zqzw c2);subst hR;have e1:decide (f.cs.getD k 0 < 0) = false:=decide_eq_false c1;have e2:decide (dz S.ds k ≤ f.cs.getD k 0) = true:=decide_eq_true c2;generalize f.cs.getD k 0 = x at hx' c1 e1 c2 e2;generalize dz S.ds k = z at hx c2 e2;go_wp2_with fail;go_ret;exact ⟨rfl,zqaa HB.out HD.out.below⟩
       ·have HJ2:=zh (zqu8 HJ.out (zqzy c1 c2));have e1:decide (f.cs.getD k 0 < 0) = false:=decide_eq_false c1;have e2:decide (dz S.ds k ≤ f.cs.getD k 0) = false:=decide_eq_false c2;generalize f.cs.getD k 0 = x at hx' c1 e1 c2 e2;generalize dz S.ds k = z at hx c2 e2;have HD2:=HD;go_wp2_with fail;go_roundw
        case rel => exact ⟨k + 1,by omega,by go_num,HD2,HJ2⟩
        case measure => simp [intOf]; omega
     ·have hke:k = S.ds.length:=by omega
      subst hke;have hR:=HY.out HJ.out;subst hR;go_wp2_with fail;go_ret;exact ⟨rfl,zqaa HB.out HD.out.below⟩
   ·rw [zqh4 (.inr (.inr n3))];have e1:((f.cs.length:Int) != (S.ds.length:Int)) = false:=by rw [n1]; simp
    have e2:((f.is.length:Int) != (S.is.length:Int)) = false:=by rw [n2]; simp
    have e3:((f.ns.length:Int) != (S.ns.length:Int)) = true:=by simp; omega
    clear h h' hb hx hx' hf n1 n2 n3;go_enter Tryz.func140,Tryz.ntmps140;go_wp2_with fail;go_ret;exact ⟨rfl,HB.out⟩
  ·rw [zqh4 (.inr (.inl n2))];have e1:((f.cs.length:Int) != (S.ds.length:Int)) = false:=by rw [n1]; simp
   have e2:((f.is.length:Int) != (S.is.length:Int)) = true:=by simp; omega
   clear h h' hb hx hx' hf n1 n2;go_enter Tryz.func140,Tryz.ntmps140;go_wp2_with fail;go_ret;exact ⟨rfl,HB.out⟩
 ·rw [zqh4 (.inl n1)];have e1:((f.cs.length:Int) != (S.ds.length:Int)) = true:=by simp; omega
  clear h h' hb hx hx' hf n1;go_enter Tryz.func140,Tryz.ntmps140;go_wp2_with fail;go_ret;exact ⟨rfl,HB.out⟩
set_option maxHeartbeats 4000000 in
theorem zqql (w:World) (D I M V C J N:Value) (S:Sc) (f:Fa) (h:Sch4 w D I M V S) (hw:SWf S) (h':Fact3 w C J N f) (hf:FaWf f) :
  Calls Tryz.prog 94 #[SchV D I M V,FactV C J N] w fun e w' => e = .returned (.int .i64 (if checkL S = 0 then (fitsL S f:Nat) else 1)) ∧ Below w.heap.size w w':=by
 obtain ⟨W,hW⟩:∃ W,(w.alloc (SchO D I M V)).alloc (FaO C J N) = W:=⟨_,rfl⟩
 obtain ⟨hb,hx,hx'⟩:=zqnn w D I M V C J N W hW;have HB:=zh hb;have HX:=zh (And.intro hx hx');have HC:=zh (zqej W D I M V S (h.below hb) hw);have HF:=zh (fun w1 (hb1:Below W.heap.size W w1) => zqra w1 D I M V C J N S f (h.below (zqaa hb hb1)) (h'.below (zqaa hb hb1)) hf)
 obtain ⟨⟨a,c,rfl⟩,⟨a2,c2,rfl⟩,⟨a3,c3,rfl⟩,a4,c4,rfl⟩:=h.slices;obtain ⟨⟨b,d,rfl⟩,⟨b2,d2,rfl⟩,b3,d3,rfl⟩:=h'.slices;obtain ⟨x0,x1,x2,x3⟩:=hx.reads;obtain ⟨y0,y1,y2⟩:=hx'.reads
 by_cases hc:checkL S = 0
 ·rw [if_pos hc];rw [hc] at HC;generalize ((fitsL S f:Nat):Int) = R at *;clear h h' hb hx hx' hf hc hw;go_enter Tryz.func94,Tryz.ntmps94;go_wp2_with fail;refine (HC.out).mono ?_; rintro e w1 ⟨rfl,hb1⟩;have HB1:=zh hb1;clear x0 x1 x2 x3 y0 y1 y2 hb1 hW;obtain ⟨x0,x1,x2,x3⟩:=(HX.out.1.below HB1.out).reads;obtain ⟨y0,y1,y2⟩:=(HX.out.2.below HB1.out).reads;go_wp2_with fail;refine (HF.out _ HB1.out).mono ?_; rintro e w2 ⟨rfl,hb2⟩;have HB2:=zh (zqaa HB.out (zqaa HB1.out hb2));clear hb2;go_wp2_with fail;go_ret;exact ⟨rfl,HB2.out⟩
 ·rw [if_neg hc];have hc2:((checkL S:Int) != 0) = true:=by simp; omega
  generalize (checkL S:Int) = ck at *;clear h h' hb hx hx' hf hc hw;go_enter Tryz.func94,Tryz.ntmps94;go_wp2_with fail;refine (HC.out).mono ?_; rintro e w1 ⟨rfl,hb1⟩;have HB1:=zh (zqaa HB.out hb1);clear hb1;go_wp2_with fail;go_ret;exact ⟨rfl,HB1.out⟩
set_option maxRecDepth 100000
open Go.RowKit
set_option linter.unusedVariables false
theorem zqky {S:Sc} {f:Fa} (hc:checkL S = 0) (hf:FaWf f) (h:fitsL S f = 0):(∀ x ∈ f.cs,0 ≤ x ∧ x ≤ 4096) ∧ f.cs.length ≤ 6 ∧ f.is.length ≤ 3 ∧ f.ns.length ≤ 2:=by
 have hn:=zqcc.1 (zqiz hc).1;have h1:=zqph h;have h2:=zqok hc hf.i hf.n h;refine ⟨fun x hx => ?_,by omega,by omega,by omega⟩
 obtain ⟨k,hk⟩:=List.getElem?_of_mem hx;have:=h2.c k x hk;omega
set_option maxRecDepth 100000
open Go.RowKit
set_option linter.unusedVariables false
theorem zqz5 {w:World} {k:IntKind} {a:Option Addr} {n cap:Nat} {xs:List Int} {j:Nat} (h:Ints k w (.slice a n cap) xs) (hj:j < xs.length):∃ b off,a = some ⟨b,off,none⟩ ∧ b < w.heap.size ∧ w.cell? ⟨b,off + j,none⟩ = some (.int k (xs.getD j 0)):=by
 obtain ⟨a',cap',e',-,h3⟩:=h;injection e' with e1 e2 e3;subst e1;rcases h3 with h3 | ⟨b,off,rfl,hlt,hc⟩
 ·rw [h3] at hj; simp at hj
 ·exact ⟨b,off,rfl,hlt,hc j hj⟩
theorem fl_at {w:World} {a:Option Addr} {n cap:Nat} {xs:List Nat} {j:Nat} (h:Fls w (.slice a n cap) xs) (hj:j < xs.length):∃ b off,a = some ⟨b,off,none⟩ ∧ b < w.heap.size ∧ w.cell? ⟨b,off + j,none⟩ = some (.float .f64 (xs.getD j 0)):=by
 obtain ⟨a',cap',e',-,h3⟩:=h;injection e' with e1 e2 e3;subst e1;rcases h3 with h3 | ⟨b,off,rfl,hlt,hc⟩
 ·rw [h3] at hj; simp at hj
 ·exact ⟨b,off,rfl,hlt,hc j hj⟩
theorem zqd4 {α:Type} {P:α → Prop} {l:List α} {d:α} (h:∀ x ∈ l,P x) {k:Nat} (hk:k < l.length):P (l.getD k d):=by
 have e:l.getD k d = l[k]:=by simp [List.getD,hk]
 rw [e]; exact h _ (List.getElem_mem hk)
set_option maxRecDepth 100000
open Go.RowKit
set_option linter.unusedVariables false
def exT:Sc:=⟨[(⟨#[97]⟩,2)],[⟨#[109]⟩],[],[]⟩
theorem zqv9 (w:World) (N:Nat) (T:TypeId) (hN:w.heap.size = N):Dims (w.alloc (.cells #[.string ⟨#[97]⟩,.int .i64 2] T)) (.slice (some ⟨N,0,none⟩) 1 1) exT.ds:=by
 subst hN;refine ⟨_,_,rfl,by simp [exT],by simp [exT],.inr ⟨w.heap.size,0,rfl,by simp,fun i hi => ?_⟩⟩
 have h2:i < 1:=hi;obtain rfl:i = 0:=by omega
 exact ⟨by simp [go_sem,dn,exT],by simp [go_sem,dz,exT]⟩
end Go.Proofs.YtmnbljijnbhghaaGreatDoor
