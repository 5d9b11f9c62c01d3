/- Contracts that the law leans on: Aggv Cemk Ceml. -/
import Derived.Deep.CutRange
import Derived.Deep.AppendLies
import Derived.Deep.RegionHeld3
import Derived.BigQuiet
import Derived.Deep.QuietTactic
import Derived.Lib.ItoaNum
import Derived.OwnWalk
import Derived.Deep.RegionLawGrows
import Derived.Laws.FloatArith
import Derived.WalkLawsBesides
import Derived.Laws.Externs
import Derived.Laws.BitsAllLaws
import Derived.Lib.Hide
import Derived.Shelf.Spec.TrailingZeros
import Derived.Laws.Bits64b
import Derived.Lib.BitFns
import Derived.Lib.Small
import Derived.Lib.Strings
import Derived.Lib.Slices
import Derived.Lib.Walk
import Derived.WalkKit
import Derived.WalkSpells
import Derived.WalkSmall
import Derived.Laws.Bits64
import Derived.Deep.Draws
import Derived.Deep.DeepCutAuto
import Derived.Laws.BytesArg
import Derived.Deep.LoopGhost
import Derived.Deep.RegionLaw
import Derived.Outline
import Derived.Deep.RegionWith
import Derived.RegionTactic
import Derived.ChangeAlike
import Derived.Laws.IdiomStrings
import Derived.ProofKit
import Derived.LaidMore
import Derived.OpenShut
import Derived.Stop.Joined
import Derived.Lib.LaidTab
import Derived.ChangeSlices
import Derived.Deep.CutBlock
import Derived.Deep.Slices
import Derived.Deep.Fields
import Derived.ChangeSame
import Derived.Lib.SmallJoins
import Derived.Deep.RegionHeld
import Derived.Deep.DrawnRows
import Derived.Lib.AppendZeros
import Derived.Maps.OwnSet
import Derived.Below
import Derived.SliceStrings
import Derived.Lib.Bytealg
import Derived.Lib.ConvBytes
import Derived.Laws.CopyRow
import Derived.Laws.IdiomCopy
import Derived.Laws.OwnMore
import Derived.Laws.MakeOwn
import Derived.Maps.Ext
import Derived.Maps.RangeWalk
import Derived.Sort.OwnSorted
import Derived.Shelf.SlSortCmp.WholeK
import Derived.Shelf.SlSortCmp.NoneTotal
import Derived.Test.YtmnbljijnbhghaaGreatDoorProg
import Derived.Test.YtmnbljijnbhghaaGreatDoorRows
import Derived.Test.YtmnbljijnbhghaaGreatDoorPf01
import Derived.Test.YtmnbljijnbhghaaGreatDoorPf02
import Derived.Test.YtmnbljijnbhghaaGreatDoorPf03
import Derived.Test.YtmnbljijnbhghaaGreatDoorPf04
import Derived.Test.YtmnbljijnbhghaaGreatDoorPt01
import Derived.Test.YtmnbljijnbhghaaGreatDoorPt02
import Derived.Test.YtmnbljijnbhghaaGreatDoorPt03
import Derived.Test.YtmnbljijnbhghaaGreatDoorPt04
import Derived.Test.YtmnbljijnbhghaaGreatDoorPt05
import Derived.Test.YtmnbljijnbhghaaGreatDoorPt06
import Derived.Test.YtmnbljijnbhghaaGreatDoorPt07
import Derived.Test.YtmnbljijnbhghaaGreatDoorPt08
import Derived.Test.YtmnbljijnbhghaaGreatDoorPt09
import Derived.Test.YtmnbljijnbhghaaGreatDoorPt10
import Derived.Test.YtmnbljijnbhghaaGreatDoorPt11
import Derived.Test.YtmnbljijnbhghaaGreatDoorPt12
import Derived.Test.YtmnbljijnbhghaaGreatDoorPt13
import Derived.Test.YtmnbljijnbhghaaGreatDoorPt14
import Derived.Test.YtmnbljijnbhghaaGreatDoorPt15
import Derived.Test.YtmnbljijnbhghaaGreatDoorPt16
import Derived.Test.YtmnbljijnbhghaaGreatDoorPt17
import Derived.Test.YtmnbljijnbhghaaGreatDoorPt18
import Derived.Test.YtmnbljijnbhghaaGreatDoorPt19
import Derived.Test.YtmnbljijnbhghaaGreatDoorPt20
import Derived.Test.YtmnbljijnbhghaaGreatDoorPt21
import Derived.Test.YtmnbljijnbhghaaGreatDoorPt22
import Derived.Test.YtmnbljijnbhghaaGreatDoorPt23
import Derived.Test.YtmnbljijnbhghaaGreatDoorPt24
import Derived.Test.YtmnbljijnbhghaaGreatDoorPt25
import Derived.Test.YtmnbljijnbhghaaGreatDoorPt26
import Derived.Test.YtmnbljijnbhghaaGreatDoorPt27
import Derived.Test.YtmnbljijnbhghaaGreatDoorPt28
import Derived.Test.YtmnbljijnbhghaaGreatDoorPt29
import Derived.Test.YtmnbljijnbhghaaGreatDoorPt30
import Derived.Test.YtmnbljijnbhghaaGreatDoorPt31
import Derived.Test.YtmnbljijnbhghaaGreatDoorPt32
import Derived.Test.YtmnbljijnbhghaaGreatDoorPt33
namespace Go.Proofs.YtmnbljijnbhghaaGreatDoor
set_option maxRecDepth 100000
open Go.RowKit
set_option linter.unusedVariables false
theorem zxbw (w:World) (x:Nat) (hx:W64 x):Flts (w.alloc (.cells #[.float .f64 x] 88)) (.slice (some ⟨w.heap.size,0,none⟩) 1 1) [x]:=by
 refine ⟨⟨_,_,rfl,by simp,.inr ⟨w.heap.size,0,rfl,by simp,fun i hi => ?_⟩⟩,fun i => ?_⟩
 ·have:i = 0:=by simp at hi; omega
  subst this;simp [go_sem]
 ·match i with
  | 0 => exact hx
  | i + 1 => simp [List.getD]
theorem zxa5 (x:Nat):totF [x] = flagN x ∧ totT [x] = unitsI x:=by simp [totF,totT]
set_option maxHeartbeats 16000000 in
theorem zxbe (w:World) (D I M V C J X:Value) (S:Sc) (m:Int) (f:Fa) (h:Sch4 w D I M V S) (h':Fact3 w C J X f) (hf:FaWf f) (m0:0 ≤ m) (m1:m ≤ 4294967295) (h0:oneE S m f = 0) (q0:checkL S = 0 ∧ fitsL S f = 0 ∧ ofE S m f.cs = 0 ∧ ∀ k,k < f.is.length → f.is.getD k 0 ≠ -9223372036854775808) :
  Calls Tryz.prog 53 #[SchV D I M V,.int .u32 m,FactV C J X] w fun e w' => ∃ c p k q l,e = .returned (.agg #[.int .u64 c.key,.int .i64 c.cnt,.slice p c.is.length k,.slice q c.ns.length l]) ∧ CeM w' (.slice p c.is.length k) (.slice q c.ns.length l) c ∧ OC S m f c ∧ Below w.heap.size w w':=by
 obtain ⟨b1,b2,b3,b4⟩:=zqog (w:=w) (T:=26) (U:=73) (V:=38) (cs:=#[D,I,M,V]) (ds:=#[C,J,X]) (es:=#[.int .u64 0,.int .i64 0,.slice none 0 0,.slice none 0 0]);have HB:=zh b4;have HX:=zh (show Box _ w.heap.size D I M V from b1);have HY:=zh b2;have HZ:=zh b3;obtain ⟨o1,o2,o3⟩:=zqz8 q0.2.2.1;have HO:=zh (fun w1 (hb:Below w.heap.size w w1) => zxbx w1 D I M V C S m f.cs (h.below hb) (h'.c.below hb) (by have:=(zqeb q0.1).1; omega) o2 (zqeb q0.1).2 o3 m0 m1)
 have hK:keyG (dz S.ds) (cz f.cs) (bitG m) S.ds.length = ofL S m f.cs:=by unfold ofL; rw [if_pos q0.2.2.1]
 rw [hK] at HO;have HFi:=zh (fun w1 (hb:Below w.heap.size w w1) => h'.i.below hb)
 have HFn:=zh (fun w1 (hb:Below w.heap.size w w1) => h'.n.below hb)
 have HI6:=zh (fun k (hk:k < f.is.length) => And.intro (zqd4 (P:=I64) (d:=0) hf.i hk) (q0.2.2.2 k hk))
 have HN6:=zh (fun k (hk:k < f.ns.length) => zqd4 (P:=W64) (d:=0) hf.n hk)
 have HSz:=zh (zqky (S:=S) q0.1 hf q0.2.1);have HOC:=zh (fun c k1 k2 k3 k4 k5 k6 => (⟨k1,k2,k3,k4,k5,k6⟩:OC S m f c))
 obtain ⟨⟨a1,c1,rfl⟩,⟨a2,c2,rfl⟩,⟨a3,c3,rfl⟩,a4,c4,rfl⟩:=h.slices;obtain ⟨⟨p1,d1,rfl⟩,⟨p2,d2,rfl⟩,p3,d3,rfl⟩:=h'.slices;generalize ofL S m f.cs = K at *;clear h h' hf m0 m1 b1 b2 b3 b4 q0 o1 o2 o3 hK h0;go_enter Tryz.func53,Tryz.ntmps53;go_upto_region 1 with fail;generalize ((w.alloc (SchO (.slice a1 S.ds.length c1) (.slice a2 S.is.length c2) (.slice a3 S.ns.length c3) (.slice a4 S.vs.length c4))).alloc (FaO (.slice p1 f.cs.length d1) (.slice p2 f.is.length d2) (.slice p3 f.ns.length d3))).alloc (.cells #[.int .u64 0,.int .i64 0,.slice none 0 0,.slice none 0 0] 38) = W at *;obtain ⟨x0,x1,x2,x3⟩:=HX.out.reads;obtain ⟨y0,y1,y2⟩:=row3 HY.out;have hlt:w.heap.size + 1 + 1 < W.heap.size:=(Array.getElem?_eq_some_iff.1 HZ.out).1;go_wp2_with fail;refine (HO.out _ HB.out).mono ?_; rintro e w2 ⟨rfl,hb2⟩;have hb3:=zqab w2 (.cells (boxV K 1 (.slice none 0 0) (.slice none 0 0)) 38);have HC0:=zh (show (w2.alloc (.cells (boxV K 1 (.slice none 0 0) (.slice none 0 0)) 38)).heap[w2.heap.size]? = some (.cells (boxV K 1 (.slice none 0 0) (.slice none 0 0)) 38 (0,0)) from heap_alloc_new w2 _);have HW3:=zh hb3;have HB2:=zh (zqaa HB.out hb2);have hR2:w.heap.size + 1 + 1 < w2.heap.size:=Nat.lt_of_lt_of_le hlt hb2.size;have hF2:w.heap.size + 1 < w2.heap.size:=by omega
 have HY2:=zh ((hb2.block _ (by omega)).trans HY.out)
 have HZ2:=zh ((hb2.block _ hlt).trans HZ.out);clear hb2 hb3 HO x0 x1 x2 x3 y0 y1 y2;obtain ⟨i0,hi,hz0,hz1,hz2⟩:=info_parts Tryz.infoWhole;obtain ⟨j0,hj,hy0,hy1,hy2⟩:=info_parts Tryz.infoReal;have hmi:f.is.length ≤ 9223372036854775807:=by have:=HSz.out.2.2.1; omega
 have hmn:f.ns.length ≤ 9223372036854775807:=by have:=HSz.out.2.2.2; omega
 go_upto_region 2 with fail;generalize w2.alloc (.cells (boxV K 1 (.slice none 0 0) (.slice none 0 0)) 38) = W3 at *;go_wp2_with fail;go_loopw [8] (fun iv wr => ∃ (k:Nat) (v:Value) (ps:List (Value × Wh)),k ≤ f.is.length ∧ iv = .int .i64 k ∧ Hid (ps.length = k ∧ Below w2.heap.size w2 wr ∧ wr.heap[w2.heap.size]? = some (.cells (boxV K 1 v (.slice none 0 0)) 38 (0,0)) ∧ WsOwn wr w2.heap.size v ps ∧ ∀ j,j < k → OW (f.is.getD j 0) (wg (ps.map Prod.snd) j))) (fun iv _ => f.is.length - (intOf iv).toNat)
 case atStart => exact ⟨0,_,[],Nat.zero_le _,rfl,zh ⟨rfl,HW3.out,HC0.out,WsOwn.nil _ _,fun j hj => by omega⟩⟩
 case round =>
  obtain ⟨k,v,ps,hk,rfl,HS⟩:=hrel;obtain ⟨pv,cv,rfl⟩:=zqae HS.out.2.2.2.1.1;have HBw:=zh (HB2.out.trans (HS.out.2.1.mono HB2.out.size));obtain ⟨-,y1,y2⟩:=row3 ((HS.out.2.1.block _ hF2).trans HY2.out)
  by_cases hlk:k < f.is.length
  ·have hlk':(k:Int) < (f.is.length:Int):=by omega
   have hle:Hid (k + 1 ≤ f.is.length):=zh (by omega)
   obtain ⟨b,off,rfl,-,g0⟩:=zqz5 (HFi.out _ HBw.out) hlk;obtain ⟨hx64,hxm⟩:=HI6.out k hlk;obtain ⟨x,hx⟩:∃ x,f.is.getD k 0 = x:=⟨_,rfl⟩
   have HXk:=zh hx;rw [hx] at g0 hx64 hxm;clear hx;have HOf:=zh (fun w1 => zqji x w1 hx64.1 hx64.2)
   have zs:Sized 8 x:=sized8 (by have:=hx64.1; omega) (by have:=hx64.2; omega)
   have HMu:=zh (fun w1 u (hu:IsNum w1 u x) => zqpn u u x x 8 w1 hu hu zs zs (by decide))
   have hxx:0 ≤ x * x ∧ Sized 1000 (x * x):=by
    have e1:x * x = (x.natAbs:Int) * (x.natAbs:Int):=(Int.natAbs_mul_self' x).symm;have e2:(x.natAbs:Int) ≤ 9223372036854775808:=by have:=hx64.1; have:=hx64.2; omega
    have e3:(x.natAbs:Int) * (x.natAbs:Int) ≤ 9223372036854775808 * 9223372036854775808:=Int.mul_le_mul e2 e2 (by omega) (by decide)
    have e4:(0:Int) ≤ (x.natAbs:Int) * (x.natAbs:Int):=Int.mul_nonneg (by omega) (by omega)
    rw [e1];have e5:(9223372036854775808:Int) * 9223372036854775808 < 1000 ^ 120:=by decide
    have e6:(0:Int) < 1000 ^ 120:=by decide
    refine ⟨e4,Sized.mono (m:=120) ⟨?_,?_⟩ (by decide)⟩
    ·generalize (x.natAbs:Int) * (x.natAbs:Int) = y at *; omega
    ·generalize (x.natAbs:Int) * (x.natAbs:Int) = y at *; omega
   have HRo:=zh (fun w1 u (hu:IsNum w1 u (x * x)) => zqpq u (x * x) w1 hu hxx.1 hxx.2)
   have i1:IntKind.i64.wrap (-x) = -x:=IntWalk.i64_in _ (by have:=hx64.1; have:=hx64.2; omega)
   have i1':wrap64 (-x) = -x:=wrap64_in (by have:=hx64.2; omega) (by have:=hx64.1; omega)
   have HAb:=zh (show max x (-x) = (x.natAbs:Int) by omega)
   have HPs:=zh HS.out.1;unfold MadeNum at HOf HMu;unfold Fresh at HRo;clear hx64 hxm zs hxx;go_wp2_with fail;refine (HOf.out _).mono ?_; rintro e w4 ⟨u,rfl,hu,hb4⟩;obtain ⟨ub,up,ul,uc,rfl⟩:=hu.shape;have hb5:=zqaa hb4 (zqab w4 (.cells #[.bool ub,.slice up ul uc] 115));have HT5:=zh hb5;have HU5:=zh (hu.below (zqab w4 (.cells #[.bool ub,.slice up ul uc] 115)));have n0:(w4.alloc (.cells #[.bool ub,.slice up ul uc] 115)).cell? ⟨w4.heap.size,0,none⟩ = some (.bool ub):=by simp [go_sem]
   have n1:(w4.alloc (.cells #[.bool ub,.slice up ul uc] 115)).cell? ⟨w4.heap.size,1,none⟩ = some (.slice up ul uc):=by simp [go_sem]
   have HCb:=zh ((hb5.block _ (Array.getElem?_eq_some_iff.1 HS.out.2.2.1).1).trans HS.out.2.2.1);have c2':=(zqac HCb.out).1.2.2.1;have HWs:=zh (HS.out.2.2.2.1.below hb5);have HB5:=zh (HS.out.2.1.trans (hb5.mono HS.out.2.1.size));have HJl:=zh HS.out.2.2.2.2;have HVl:=zh (fun g hg => (World.ownsRow.lt HS.out.2.2.2.1.1 g hg).2)
   have hMr:wr.heap.size ≤ w4.heap.size:=hb4.size;clear hb4 hb5 hu g0 y1 y2 HS HOf;go_upto_region 7 with fail;generalize w4.alloc (.cells #[.bool ub,.slice up ul uc] 115) = w5 at *;generalize w4.heap.size = MM at *;have hk0:w5.cell? ⟨w2.heap.size,2,none⟩ = some (.slice pv ps.length cv) ∧ w5.cell? ⟨MM,0,none⟩ = some (.bool ub) ∧ w5.cell? ⟨MM,1,none⟩ = some (.slice up ul uc):=⟨c2',n0,n1⟩;have hk:w5.drew.cell? ⟨w2.heap.size,2,none⟩ = some (.slice pv ps.length cv) ∧ w5.drew.cell? ⟨MM,0,none⟩ = some (.bool ub) ∧ w5.drew.cell? ⟨MM,1,none⟩ = some (.slice up ul uc):=hk0;have hC5:w2.heap.size < w5.heap.size:=(Array.getElem?_eq_some_iff.1 HCb.out).1;have hM5:MM < w5.heap.size:=World.block_lt_of_cell? _ _ n0;clear c2' n0 n1;refine zqfa (S:=fun w' => w'.cell? ⟨w2.heap.size,2,none⟩ = some (.slice pv ps.length cv) ∧ w'.cell? ⟨MM,0,none⟩ = some (.bool ub) ∧ w'.cell? ⟨MM,1,none⟩ = some (.slice up ul uc)) 17 (by kernel_rfl) hk (fun _ => ?_)
   refine tkZ 0 33 (.pointer (some ⟨w2.heap.size,2,none⟩)) rfl hk ?_;try simp only [pS]
   refine tkZ 1 34 (.slice pv ps.length cv) rfl hk ?_;try simp only [pS]
   refine tkZ 2 35 (.int .i64 x) rfl hk ?_;try simp only [pS]
   refine tkZ 3 36 (.int .i64 x) rfl hk ?_;try simp only [pS]
   refine tkZ 4 37 (.int .i64 x) rfl hk ?_;try simp only [pS]
   refine tkZ 5 38 (.int .i64 (-x)) rfl hk ?_;try simp only [pS]
   refine tkZ 6 39 (.int .i64 (max x (-x))) rfl hk ?_;try simp only [pS]
   refine tkZ 7 40 (.agg #[.bool ub,.slice up ul uc]) rfl hk ?_;try simp only [pS]
   refine tkZ 8 41 (.agg #[.bool ub,.slice up ul uc]) rfl hk ?_;try simp only [pS]
   refine tkZ 11 44 (.int .i64 x) rfl hk ?_;try simp only [pS]
   refine tkZ 12 45 (.int .i64 x) rfl hk ?_;try simp only [pS]
   refine zqbi (i:=9) (by kernel_rfl) rfl (fun K' hK => ?_)
   rw [if_pos (by kernel_rfl)]
   go_simp;go_at_call 102;refine (HMu.out _ _ (HU5.out.below (Below.refl _ _).drew)).mono ?_;rintro r w6 ⟨v6,rfl,hv6,hb6⟩;have hb6':=zqaw hb6;replace hk:=And.intro (cell_later hb6' hk0.1) (And.intro (cell_later hb6' hk0.2.1) (cell_later hb6' hk0.2.2));have HV6:=zh hv6;obtain ⟨vb,vp,vl,vc,rfl⟩:=hv6.shape;clear hb6 hv6;refine hK.out _ _ hk ?_;try simp only [pS]
   clear hK;refine zqbi (i:=10) (by kernel_rfl) rfl (fun K' hK => ?_)
   rw [if_pos (by kernel_rfl)]
   go_simp;go_at_call 79;refine (HRo.out _ _ HV6.out).mono ?_;rintro r w7 ⟨v7,lz,rfl,g1,g2,g3,g4,g5,hb7⟩;have hb7':=zqaa hb6' hb7;replace hk:=And.intro (cell_later hb7 hk.1) (And.intro (cell_later hb7 hk.2.1) (cell_later hb7 hk.2.2));have HO7:=zh (zqak g1 (B':=w2.heap.size) (Nat.le_trans (Nat.le_of_lt hC5) hb6'.size));have HG7:=zh (And.intro g2 (And.intro g3 g4));obtain ⟨pq,cq,rfl⟩:=zqae g1;clear g1 g2 g3 g4 g5 hb7 hb6';refine hK.out _ _ hk ?_;try simp only [pS]
   clear hK;refine tkZ 13 46 (.agg #[.int .i64 x,.int .i64 (max x (-x)),.slice pq lz.length cq,.int .i64 x,.int .i64 x]) rfl hk ?_;try simp only [pS]
   refine zqbi (i:=14) (by kernel_rfl) rfl (fun K' hK => ?_)
   rw [if_pos (by kernel_rfl)]
   go_simp;have hb8:=zqab w7 (.cells #[.int .i64 x,.int .i64 (max x (-x)),.slice pq lz.length cq,.int .i64 x,.int .i64 x] 85);have hbE:=zqaa hb7' hb8;replace hk:=And.intro (cell_later hb8 hk.1) (And.intro (cell_later hb8 hk.2.1) (cell_later hb8 hk.2.2));refine hK.out _ _ hk ?_;try simp only [pS]
   clear hK;refine zqbi (i:=15) (by kernel_rfl) rfl (fun K' hK => ?_)
   refine zqb5 _ (by rfl) _ _ _ (by rfl) w2.heap.size 85 i0 (.agg #[.int .i64 0,.int .i64 0,.slice none 0 0,.int .i64 0,.int .i64 0]) 5 56 Tryz.underlying35 hi hz0 hz1 hz2 zqcw (by decide) _ ps.length (cellsW ps) (by rfl) (zqaj HWs.out.1 hbE) ⟨w7.heap.size,0,none⟩ 1 1 [.int .i64 x,.int .i64 (max x (-x)),.slice pq lz.length cq,.int .i64 x,.int .i64 x] (by rfl) (by rfl) (World.news_of_block (heap_alloc_new w7 _)) (by intro u hu; simp at hu; rcases hu with rfl | rfl | rfl | rfl | rfl <;> rfl) (by have:=HPs.out; have:=HSz.out.2.2.1; unfold maxLen; omega) (by have:=HPs.out; have:=HSz.out.2.2.1; omega) (by have h1:=hbE.size; omega) ?_
   intro v' w9 hown hgrow;have hWE:=HWs.out.below hbE;have HW9:=zh (WsOwn.push (x:=⟨x,max x (-x),lz,x,x⟩) hWE (zqaj HO7.out hb8) hown hgrow);have HC9:=zh (zqfi ((hbE.block _ hC5).trans HCb.out) hWE.1 (by decide) hgrow)
   have HB9:=zh (Below.grown (HB5.out.trans (hbE.mono HB5.out.size)) hgrow (by have h1:=hbE.size; omega) (fun gg hg => (World.ownsRow.lt HWs.out.1 gg hg).1))
   obtain ⟨⟨s0,s1,s2,s3⟩,sf⟩:=zqac HC9.out;replace hk:=And.intro s2 (And.intro (zqai hgrow HVl.out hMr hk.2.1) (zqai hgrow HVl.out hMr hk.2.2));clear hWE hbE hb8 hb7';obtain ⟨pv',cv',rfl⟩:=zqae hown;clear hown hgrow;refine hK.out _ _ hk ?_;try simp only [Act.put,List.setIfInBounds_toArray]
   clear hK;refine tkZ 16 49 (.pointer (some ⟨w2.heap.size,2,none⟩)) rfl hk ?_;try simp only [Act.put]
   refine zqit (by kernel_rfl) rfl (fun K' hK => ?_)
   rw [if_pos (by kernel_rfl)]
   go_simp;refine hK.out _ _ ?_;try simp only [pS]
   clear hK;refine zqis (by kernel_rfl) ?_ _
   have HC12:=zh (zqdz (u:=.slice pv' (ps.length + 1) cv') HC9.out);have HW12:=zh (HW9.out.setbox (j:=2) (u:=.slice pv' (ps.length + 1) cv') HC9.out (by decide) (by decide))
   have HB12:=zh (HB9.out.setCell (p:=⟨w2.heap.size,2,none⟩) (Nat.le_refl _) (.slice pv' (ps.length + 1) cv'));generalize w9.setCell ⟨w2.heap.size,2,none⟩ (.slice pv' (ps.length + 1) cv') = w12 at *;clear hk s0 s1 s2 s3 sf hk0;go_wp2_with fail;go_roundw
   case rel => exact ⟨k + 1,_,ps ++ [(.slice pq lz.length cq,⟨x,max x (-x),lz,x,x⟩)],hle.out,by go_num,zh ⟨by simp [HPs.out],HB12.out,HC12.out,HW12.out,fun j hj => zqzh HPs.out hj (fun e => HJl.out j e) (fun e => by subst e; rw [HXk.out]; exact ⟨rfl,HAb.out,HG7.out.1,HG7.out.2.1,HG7.out.2.2,rfl,rfl⟩)⟩⟩
   case measure => simp [intOf]; omega
  ·have:k = f.is.length:=by omega
   subst this;have HJW:=zh HS.out.2.2.2.2;have HPs:=zh HS.out.1;have HV0:=zh (And.intro HS.out.2.1 (And.intro HS.out.2.2.1 HS.out.2.2.2.1));clear HS hlk hk HBw;generalize wr = wz at *;go_wp2_with fail;clear y1 y2;go_loopw [11] (fun iv wr => ∃ (k:Nat) (v2:Value) (rs:List (Value × Re)),k ≤ f.ns.length ∧ iv = .int .i64 k ∧ Hid (rs.length = k ∧ Below w2.heap.size w2 wr ∧ wr.heap[w2.heap.size]? = some (.cells (boxV K 1 (.slice pv ps.length cv) v2) 38 (0,0)) ∧ WsOwn wr w2.heap.size (.slice pv ps.length cv) ps ∧ RsOwn wr w2.heap.size v2 rs ∧ ∀ j,j < k → OR (f.ns.getD j 0) (rg (rs.map Prod.snd) j))) (fun iv _ => f.ns.length - (intOf iv).toNat)
   case atStart => exact ⟨0,_,[],Nat.zero_le _,rfl,zh ⟨rfl,HV0.out.1,HV0.out.2.1,HV0.out.2.2,RsOwn.nil _ _,fun j hj => by omega⟩⟩
   case round =>
    obtain ⟨k,v2,rs,hk,rfl,HS⟩:=hrel;obtain ⟨pv2,cv2,rfl⟩:=zqae HS.out.2.2.2.2.1.1;have HBw:=zh (HB2.out.trans (HS.out.2.1.mono HB2.out.size));obtain ⟨-,y1,y2⟩:=row3 ((HS.out.2.1.block _ hF2).trans HY2.out)
    by_cases hlk:k < f.ns.length
    ·have hlk':(k:Int) < (f.ns.length:Int):=by omega
     have hle:Hid (k + 1 ≤ f.ns.length):=zh (by omega)
     obtain ⟨b,off,rfl,-,g0⟩:=fl_at (HFn.out _ HBw.out) hlk;have hx64:=HN6.out k hlk;obtain ⟨x,hx⟩:∃ x,f.ns.getD k 0 = x:=⟨_,rfl⟩
     have HXk:=zh hx;rw [hx] at g0 hx64;have HFo:=zh (fun w1 => zxbw w1 x hx64)
     have HOf:=zh (fun w1 v hv => zxb3 v [x] w1 hv (by simp))
     have hfit:Fits (unitsI x):=(zqkx x hx64).fits (by decide)
     have hk0:=(zqac HS.out.2.2.1).1.2.2.2;have HCl:=zh (Array.getElem?_eq_some_iff.1 HS.out.2.2.1).1;have HRl:=zh HS.out.1;unfold ROfP at HOf;rw [(zxa5 x).1,(zxa5 x).2] at HOf;obtain ⟨lz,hlz⟩:=zqzz (f:=flagN x) hfit;have HBy:=zh (fun w1 v (hv:SumV w1 v (flagN x) (unitsI x)) => zqox w1 v (flagN x) (unitsI x) lz hv hlz)
     have HEl:=zh hlz;unfold BytesP5 at HBy;clear hx hx64 hfit hlz;go_upto_region 12 with fail;have hk:wr.drew.cell? ⟨w2.heap.size,3,none⟩ = some (.slice pv2 rs.length cv2):=hk0;clear g0 y1 y2;refine zqfa (S:=fun w' => w'.cell? ⟨w2.heap.size,3,none⟩ = some (.slice pv2 rs.length cv2)) 12 (by kernel_rfl) hk (fun _ => ?_)
     refine tkZ 0 62 (.pointer (some ⟨w2.heap.size,3,none⟩)) rfl hk ?_;try simp only [pS]
     refine tkZ 1 63 (.slice pv2 rs.length cv2) rfl hk ?_;try simp only [pS]
     refine tkZ 2 64 (.float .f64 x) rfl hk ?_;try simp only [pS]
     refine tkZ 6 68 (.float .f64 x) rfl hk ?_;try simp only [pS]
     refine tkZ 7 69 (.float .f64 x) rfl hk ?_;try simp only [pS]
     refine zqbi (i:=3) (by kernel_rfl) rfl (fun K' hK => ?_)
     rw [if_pos (by kernel_rfl)]
     go_simp;have hb3:Below wr.heap.size wr (wr.drew.alloc (.cells #[.float .f64 x] 88)):=zqaw (zqab wr.drew (.cells #[.float .f64 x] 88));have HF3:=zh (HFo.out wr.drew);replace hk:=cell_later hb3 hk0;refine hK.out _ _ hk ?_;try simp only [pS]
     clear hK;refine zqbi (i:=4) (by kernel_rfl) rfl (fun K' hK => ?_)
     rw [if_pos (by kernel_rfl)]
     go_simp;go_at_call 103;refine (HOf.out _ _ HF3.out).mono ?_;rintro r w5 ⟨⟨v5,rfl,hv5⟩,hb5⟩;have hb5':=zqaa hb3 hb5;replace hk:=cell_later hb5 hk;have HV5:=zh hv5;obtain ⟨nb,vp,vl,vc,rfl⟩:=hv5.shape;clear hv5 hb3;refine hK.out _ _ hk ?_;try simp only [pS]
     clear hK;refine zqbi (i:=5) (by kernel_rfl) rfl (fun K' hK => ?_)
     rw [if_pos (by kernel_rfl)]
     go_simp;go_at_call 81;refine (HBy.out _ _ HV5.out).mono ?_;rintro r w4 ⟨⟨u4,rfl,ho4⟩,hb4⟩;have hb4':=zqaa hb5' hb4;replace hk:=cell_later hb4 hk;have HO4:=zh (zqak ho4 (B':=w2.heap.size) (Nat.le_trans HS.out.2.1.size hb5'.size));obtain ⟨pq,cq,rfl⟩:=zqae ho4;clear ho4 hb4 hb5 hb5' hk0;refine hK.out _ _ hk ?_;try simp only [pS]
     clear hK;refine tkZ 8 70 (.agg #[.slice pq lz.length cq,.float .f64 x,.float .f64 x]) rfl hk ?_;try simp only [pS]
     refine zqbi (i:=9) (by kernel_rfl) rfl (fun K' hK => ?_)
     rw [if_pos (by kernel_rfl)]
     go_simp;have hb6:=zqab w4 (.cells #[.slice pq lz.length cq,.float .f64 x,.float .f64 x] 90);have hbE:=zqaa hb4' hb6;replace hk:=cell_later hb6 hk;refine hK.out _ _ hk ?_;try simp only [pS]
     clear hK;refine zqbi (i:=10) (by kernel_rfl) rfl (fun K' hK => ?_)
     refine zqb5 _ (by rfl) _ _ _ (by rfl) w2.heap.size 90 j0 (.agg #[.slice none 0 0,.float .f64 0,.float .f64 0]) 3 40 Tryz.underlying36 hj hy0 hy1 hy2 zqda (by decide) _ rs.length (cellsR rs) (by rfl) (zqaj HS.out.2.2.2.2.1.1 hbE) ⟨w4.heap.size,0,none⟩ 1 1 [.slice pq lz.length cq,.float .f64 x,.float .f64 x] (by rfl) (by rfl) (World.news_of_block (heap_alloc_new w4 _)) (by intro u hu; simp at hu; rcases hu with rfl | rfl | rfl <;> rfl) (by have:=HRl.out; have:=HSz.out.2.2.2; unfold maxLen; omega) (by have:=HRl.out; have:=HSz.out.2.2.2; omega) (by have h1:=hbE.size; have h2:=HS.out.2.1.size; omega) ?_
     intro v' w9 hown hgrow;have hRE:=HS.out.2.2.2.2.1.below hbE;have hWE:=HS.out.2.2.2.1.below hbE;have HR9:=zh (RsOwn.push (x:=⟨lz,x,x⟩) hRE (zqaj HO4.out hb6) hown hgrow);have HW9:=zh (hWE.apart hRE.1 (by decide) (by decide) hgrow)
     have hCE:=(hbE.block _ HCl.out).trans HS.out.2.2.1;have HC9:=zh (zqfi hCE hRE.1 (by decide) hgrow)
     have HB9:=zh (Below.grown (HS.out.2.1.trans (hbE.mono HS.out.2.1.size)) hgrow (by have h1:=hbE.size; have h2:=HS.out.2.1.size; omega) (fun gg hg => (World.ownsRow.lt HS.out.2.2.2.2.1.1 gg hg).1))
     obtain ⟨⟨s0,s1,s2,s3⟩,sf⟩:=zqac HC9.out;replace hk:=s3;have HJl:=zh HS.out.2.2.2.2.2;clear hWE hRE hCE hbE hb6 hb4' HS;obtain ⟨pv',cv',rfl⟩:=zqae hown;clear hown hgrow;refine hK.out _ _ hk ?_;try simp only [Act.put,List.setIfInBounds_toArray]
     clear hK;refine tkZ 11 73 (.pointer (some ⟨w2.heap.size,3,none⟩)) rfl hk ?_;try simp only [Act.put]
     refine zqit (by kernel_rfl) rfl (fun K' hK => ?_)
     rw [if_pos (by kernel_rfl)]
     go_simp;refine hK.out _ _ ?_;try simp only [pS]
     clear hK;refine zqis (by kernel_rfl) ?_ _
     have HC12:=zh (zqhx (u:=.slice pv' (rs.length + 1) cv') HC9.out);have HW12:=zh (HW9.out.setbox (j:=3) (u:=.slice pv' (rs.length + 1) cv') HC9.out (by decide) (by decide))
     have HR12:=zh (HR9.out.setbox (j:=3) (u:=.slice pv' (rs.length + 1) cv') HC9.out (by decide) (by decide))
     have HB12:=zh (HB9.out.setCell (p:=⟨w2.heap.size,3,none⟩) (Nat.le_refl _) (.slice pv' (rs.length + 1) cv'));generalize w9.setCell ⟨w2.heap.size,3,none⟩ (.slice pv' (rs.length + 1) cv') = w12 at *;clear hk s0 s1 s2 s3 sf;go_wp2_with fail;go_roundw
     case rel => exact ⟨k + 1,_,rs ++ [(.slice pq lz.length cq,⟨lz,x,x⟩)],hle.out,by go_num,zh ⟨by simp [HRl.out],HB12.out,HC12.out,HW12.out,HR12.out,fun j hj => zqzg HRl.out hj (fun e => HJl.out j e) (fun e => by subst e; rw [HXk.out]; exact ⟨HEl.out,rfl,rfl⟩)⟩⟩
     case measure => simp [intOf]; omega
    ·have:k = f.ns.length:=by omega
     subst this;have hzz:=(HS.out.2.1.block _ hR2).trans HZ2.out;obtain ⟨⟨q0,q1,q2,q3⟩,zf⟩:=zqac hzz;obtain ⟨⟨s0,s1,s2,s3⟩,-⟩:=zqac HS.out.2.2.1;have hS:=zqan (k':=K) (n':=1) (I':=.slice pv ps.length cv) (N':=.slice pv2 rs.length cv2) hzz;have hB:=zqao (R:=w.heap.size + 1 + 1) (k':=K) (n':=1) (I':=.slice pv ps.length cv) (N':=.slice pv2 rs.length cv2) HBw.out (by omega)
     have hW:=zqg7 (k':=K) (n':=1) (I':=.slice pv ps.length cv) (N':=.slice pv2 rs.length cv2) hzz (by decide) (by decide) HS.out.2.2.2.1
     have hR:=zqg6 (k':=K) (n':=1) (I':=.slice pv ps.length cv) (N':=.slice pv2 rs.length cv2) hzz (by decide) (by decide) HS.out.2.2.2.2.1
     unfold set4 at hS hB hW hR;have HS9:=zh hS;have HB9:=zh hB;have hli:(ps.map Prod.snd).length = ps.length:=by simp
     have hln:(rs.map Prod.snd).length = rs.length:=by simp
     have HM9:=zh (And.intro hW.wholes hR.reals);have HF:=zh (HOC.out ⟨K,1,ps.map Prod.snd,rs.map Prod.snd⟩ rfl rfl (by simp [HPs.out]) (by simp [HS.out.1]) HJW.out HS.out.2.2.2.2.2)
     clear hS hB hW hR hzz HS hk hlk;go_wp2_with fail;obtain ⟨⟨r0,r1,r2,r3⟩,-⟩:=zqac HS9.out;exact bodyPost_ret (v:=CeV ⟨K,1,ps.map Prod.snd,rs.map Prod.snd⟩ (.slice pv ps.length cv) (.slice pv2 rs.length cv2)) (by simp [results,Tryz.results53,go_sem,r0,r1,r2,r3]) rfl ⟨⟨K,1,ps.map Prod.snd,rs.map Prod.snd⟩,pv,cv,pv2,cv2,by rw [hli,hln],⟨by show Wholes _ (.slice pv (ps.map Prod.snd).length cv) _; rw [hli]; exact HM9.out.1,by show Reals _ (.slice pv2 (rs.map Prod.snd).length cv2) _; rw [hln]; exact HM9.out.2⟩,HF.out,HB9.out⟩
theorem zxcc {S:Sc} {m:Int} {f:Fa} (hc:checkL S = 0) (hm:m ≤ fullL S.ds):oneE S m f = if fitsL S f = 0 then if minB f.is = true then 10 else 0 else fitsL S f:=by
 unfold oneE;rw [if_pos hc]
 by_cases h:fitsL S f = 0
 ·obtain ⟨h1,-,-,h4⟩:=zqph h;have h5:ofE S m f.cs = 0:=by
   unfold ofE numE;rw [if_pos hc,if_pos hm,if_pos rfl,if_pos h1,if_pos];refine zqxh fun k hk => ?_
   have h6:=zqyb h4 (k:=k) (by omega)
   unfold rngAt;simp only [Bool.or_eq_true,Bool.and_eq_true,decide_eq_true_eq,Bool.not_eq_true']
   first
    | exact .inr h6
    | exact .inr ⟨h6.1,h6.2⟩
    | (cases bitG m k <;> simp [h6])
  rw [if_pos h,if_pos h,if_pos h5]
 ·rw [if_neg h,if_neg h]
theorem hold7k {w w':World} (hb:Below w.heap.size w w') {p0 p1 p2 p3 p4 p5 p6:Addr} {v0 v1 v2 v3 v4 v5 v6:Value}
  (h:w.cell? p0 = some v0 ∧ w.cell? p1 = some v1 ∧ w.cell? p2 = some v2 ∧ w.cell? p3 = some v3 ∧ w.cell? p4 = some v4 ∧ w.cell? p5 = some v5 ∧ w.cell? p6 = some v6):w'.cell? p0 = some v0 ∧ w'.cell? p1 = some v1 ∧ w'.cell? p2 = some v2 ∧ w'.cell? p3 = some v3 ∧ w'.cell? p4 = some v4 ∧ w'.cell? p5 = some v5 ∧ w'.cell? p6 = some v6 :=
 ⟨cell_later hb h.1,cell_later hb h.2.1,cell_later hb h.2.2.1,cell_later hb h.2.2.2.1,cell_later hb h.2.2.2.2.1,cell_later hb h.2.2.2.2.2.1,cell_later hb h.2.2.2.2.2.2⟩
def FoldR (w:World) (R:Nat × List Ce) (e:Ending) (w':World):Prop:=∃ r ps,e = .returned (.tuple #[r,.int .i64 R.1]) ∧ RdR w' r ps ∧ ps.map cellOf = R.2 ∧ Below w.heap.size w w'
theorem zxac {w w':World} {n:Nat} (hb:Below w.heap.size w w'):FoldR w (n,[]) (.returned (.tuple #[.slice none 0 0,.int .i64 n])) w':=⟨_,[],rfl,RdR.nil _,rfl,hb⟩
set_option maxHeartbeats 8000000 in
theorem zxa1 (w:World) (D I M V v:Value) (S:Sc) (m:Int) (l:List Fa) (h:Sch4 w D I M V S) (hw:SWf S) (h':Facts w v l) (hf:∀ f ∈ l,FaWf f) (m0:0 ≤ m) (m1:m ≤ 4294967295) :
  Calls Tryz.prog 23 #[SchV D I M V,.int .u32 m,v] w (FoldR w (foldE S m l)):=by
 have HB:=zh (zqab w (SchO D I M V));have HX:=zh (zqau w D I M V);have HCk:=zh (fun w1 (hb:Below w.heap.size w w1) => zqjq w1 D I M V S (h.below hb) hw)
 have HFu:=zh (fun w1 (hb:Below w.heap.size w w1) (hn:S.ds.length ≤ 6) => zqll w1 D I M V S (h.below hb) hn)
 have HSu:=zh (fun w1 (hn:S.ds.length ≤ 6) => zqim w1 m S.ds.length hn m0 m1)
 have HC:=zh h';have HFt:=zh (fun w1 C J X k (hb:Below w.heap.size w w1) (hk:k < l.length) (hx:Fact3 w1 C J X (fg l k)) => zxbo w1 D I M V C J X S (fg l k) (h.below hb) hx (hf _ (by rw [zqi2 hk]; exact List.getElem_mem hk)))
 obtain ⟨⟨a1,c1,rfl⟩,⟨a2,c2,rfl⟩,⟨a3,c3,rfl⟩,a4,c4,rfl⟩:=h.slices;obtain ⟨p,cap,rfl,-⟩:=id h'
 by_cases hck:checkL S = 0
 rotate_left
 ·have hR:foldE S m l = (1,[]):=if_neg hck;rw [hR];have hck':¬ ((checkL S:Nat):Int) = 0:=by omega
  generalize checkL S = E0 at *;clear hR hck HFu HSu HFt h hw hf;go_enter Tryz.func23,Tryz.ntmps23;obtain ⟨x0,x1,x2,x3⟩:=HX.out.reads;go_wp2_with fail;refine (HCk.out _ HB.out).mono ?_; rintro e w1 ⟨rfl,hb⟩;have HF:=zh (zxac (n:=1) (zqaa HB.out hb));clear hb x0 x1 x2 x3;go_wp2_with fail;go_ret2;exact HF.out
 have HL6:=zh ((zqeb hck).1);rw [hck] at HCk
 by_cases hmk:m ≤ fullL S.ds
 rotate_left
 ·have hR:foldE S m l = (11,[]):=by unfold foldE; rw [if_pos hck,if_neg hmk]
  rw [hR];have hd:decide (m < 2 ^ S.ds.length) = false:=decide_eq_false (fun q => hmk (by unfold fullL; omega))
  rw [hd] at HSu;unfold fullL at HFu;clear hR hck hd hmk h hw hf HFt;go_enter Tryz.func23,Tryz.ntmps23;obtain ⟨x0,x1,x2,x3⟩:=HX.out.reads;go_wp2_with fail;refine (HCk.out _ HB.out).mono ?_; rintro e w1 ⟨rfl,hb⟩;have HB1:=zh (zqaa HB.out hb);obtain ⟨y0,y1,y2,y3⟩:=(HX.out.below hb).reads;clear hb x0 x1 x2 x3;go_wp2_with fail;refine (HFu.out _ HB1.out HL6.out).mono ?_; rintro e w2 ⟨rfl,hb⟩;have HF:=zh (zxac (n:=11) (zqaa HB1.out hb));clear hb y0 y1 y2 y3;go_wp2_with fail;refine (HSu.out _ HL6.out).mono ?_; rintro e w3 ⟨rfl,rfl⟩;go_wp2_with fail;go_ret2;exact HF.out
 have hd:decide (m < 2 ^ S.ds.length) = true:=decide_eq_true (by unfold fullL at hmk; omega)
 rw [hd] at HSu;have HOf:=zh (fun f => zxcc (f:=f) hck hmk)
 unfold fullL at HFu
 by_cases hln:l.length ≤ 200
 rotate_left
 ·have hR:foldE S m l = (3,[]):=by unfold foldE; rw [if_pos hck,if_pos hmk,if_neg hln]
  rw [hR];have hln':(200:Int) < ((l.length:Nat):Int):=by omega
  clear hR hck hd hmk hln h hw hf HOf HFt;go_enter Tryz.func23,Tryz.ntmps23;obtain ⟨x0,x1,x2,x3⟩:=HX.out.reads;go_wp2_with fail;refine (HCk.out _ HB.out).mono ?_; rintro e w1 ⟨rfl,hb⟩;have HB1:=zh (zqaa HB.out hb);obtain ⟨y0,y1,y2,y3⟩:=(HX.out.below hb).reads;clear hb x0 x1 x2 x3;go_wp2_with fail;refine (HFu.out _ HB1.out HL6.out).mono ?_; rintro e w2 ⟨rfl,hb⟩;have HF:=zh (zxac (n:=3) (zqaa HB1.out hb));clear hb y0 y1 y2 y3;go_wp2_with fail;refine (HSu.out _ HL6.out).mono ?_; rintro e w3 ⟨rfl,rfl⟩;go_wp2_with fail;go_ret2;exact HF.out
 have hR:foldE S m l = foldF S m [] l:=by unfold foldE; rw [if_pos hck,if_pos hmk,if_pos hln]
 rw [hR];have HS0:=zh (show Fofar S m l (foldF S m [] l) 0 [] from ⟨rfl,(fun x hx => by cases hx),Nat.le_refl _⟩)
 have hln':¬ (200:Int) < ((l.length:Nat):Int):=by omega
 have HLf:=zh (fun k (hk:k < l.length) => (hf (fg l k) (by rw [zqi2 hk]; exact List.getElem_mem hk)).l.2.1)
 have HWf:=zh (fun k (hk:k < l.length) => hf (fg l k) (by rw [zqi2 hk]; exact List.getElem_mem hk))
 have HO1:=zh (fun w1 C J X k (hb:Below w.heap.size w w1) (hk:k < l.length) (hx:Fact3 w1 C J X (fg l k)) (h0:oneE S m (fg l k) = 0) => zxbe w1 _ _ _ _ C J X S m (fg l k) (h.below hb) hx (hf (fg l k) (by rw [zqi2 hk]; exact List.getElem_mem hk)) m0 m1 h0 (zqpp h0))
 clear hR hck hd hmk h hw hf;generalize foldF S m [] l = R at *;go_enter Tryz.func23,Tryz.ntmps23;obtain ⟨x0,x1,x2,x3⟩:=HX.out.reads;go_wp2_with fail;refine (HCk.out _ HB.out).mono ?_; rintro e w1 ⟨rfl,hb⟩;have HB1:=zh (zqaa HB.out hb);have HX1:=zh (HX.out.below hb);obtain ⟨y0,y1,y2,y3⟩:=HX1.out.reads;clear hb x0 x1 x2 x3 HX HB HCk;go_wp2_with fail;refine (HFu.out _ HB1.out HL6.out).mono ?_; rintro e w2 ⟨rfl,hb⟩;have HB2:=zh (zqaa HB1.out hb);have HX2:=zh (HX1.out.below hb);clear hb y0 y1 y2 y3 HX1 HB1 HFu;go_wp2_with fail;refine (HSu.out _ HL6.out).mono ?_; rintro e w3 ⟨rfl,rfl⟩;clear HSu HL6;go_wp2_with fail;go_loopw [8,9,10] (fun ov ev iv wr => ∃ (k:Nat) (ps:List (Value × Value × Ce)),k ≤ l.length ∧ iv = .int .i64 k ∧ ev = .int .i64 0 ∧ (∃ g n c,ov = .slice g n c) ∧ Hid (RdR wr ov ps) ∧ Hid (Fofar S m l R k (ps.map cellOf)) ∧ Hid (Below w.heap.size w wr) ∧ Hid (Box wr w.heap.size (.slice a1 S.ds.length c1) (.slice a2 S.is.length c2) (.slice a3 S.ns.length c3) (.slice a4 S.vs.length c4))) (fun _ _ iv _ => l.length - (intOf iv).toNat)
 case atStart => exact ⟨0,[],Nat.zero_le _,rfl,rfl,⟨_,_,_,rfl⟩,zh (RdR.nil _),HS0,HB2,HX2⟩
 case round =>
  obtain ⟨k,ps,hkl,rfl,rfl,⟨og,on,oc,rfl⟩,HO,HS,HW,HX⟩:=hrel;clear HX2 HB2 HS0
  by_cases hlt:k < l.length
  ·have hlt':(k:Int) < (l.length:Int):=by omega
   obtain ⟨bb,off,rfl,C,J,X,⟨d0,d1,d2⟩,hx⟩:=HC.out.at15 hlt;obtain ⟨⟨ja,jc,rfl⟩,⟨ka,kc,rfl⟩,la,lc,rfl⟩:=hx.slices;have HFx:=zh hx;have hk:=hold7k ((Below.refl wr.heap.size wr).drew) ⟨HX.out.reads.1,HX.out.reads.2.1,HX.out.reads.2.2.1,HX.out.reads.2.2.2,cell_later HW.out d0,cell_later HW.out d1,cell_later HW.out d2⟩;have hBw:=HW.out.drew;have HFk:=zh (fun w1 (hb:Below w.heap.size w w1) => HFt.out w1 _ _ _ k hb hlt (hx.below hb))
   clear d0 d1 d2 hx;go_upto_region 12 with fail;go_region_held3 (fun w' => w'.cell? ⟨w.heap.size,0,none⟩ = some (.slice a1 S.ds.length c1) ∧ w'.cell? ⟨w.heap.size,1,none⟩ = some (.slice a2 S.is.length c2) ∧ w'.cell? ⟨w.heap.size,2,none⟩ = some (.slice a3 S.ns.length c3) ∧ w'.cell? ⟨w.heap.size,3,none⟩ = some (.slice a4 S.vs.length c4) ∧ w'.cell? ⟨bb,off + k * 3,none⟩ = some (.slice ja (fg l k).cs.length jc) ∧ w'.cell? ⟨bb,off + k * 3 + 1,none⟩ = some (.slice ka (fg l k).is.length kc) ∧ w'.cell? ⟨bb,off + k * 3 + 2,none⟩ = some (.slice la (fg l k).ns.length lc)) (with_reducible exact hk)
    (first | (go_at_call 51; refine (HFk.out _ (by first | with_reducible exact hBw | with_reducible exact hBw.drew)).mono ?_; rintro r wv ⟨rfl,hb⟩; replace hk:=hold7k hb hk; replace hBw:=zqaa hBw hb; have HOv:=zh (HO.out.below (zqaa (Below.refl wr.heap.size wr).drew hb)); have HXv:=zh (HX.out.below (zqaa (Below.refl wr.heap.size wr).drew hb)); clear hb))
   have HBv:=zh hBw;have HSt:=zh (HS.out.step hlt);have HOne:=zh (HOf.out (fg l k))
   by_cases hft:fitsL S (fg l k) = 0
   rotate_left
   ·have hR:=HSt.out;rw [HOne.out,if_neg hft,if_neg hft] at hR;subst hR;have hft':¬ ((fitsL S (fg l k):Nat):Int) = 0:=by omega
    replace hk:=hold7k (Below.refl wv.heap.size wv).drew hk;replace hBw:=hBw.drew;clear HSt HOne HOf HS HO HX HOv HXv HFt hft;go_upto_region 13 with fail;go_region_held3 (fun w' => w'.cell? ⟨w.heap.size,0,none⟩ = some (.slice a1 S.ds.length c1) ∧ w'.cell? ⟨w.heap.size,1,none⟩ = some (.slice a2 S.is.length c2) ∧ w'.cell? ⟨w.heap.size,2,none⟩ = some (.slice a3 S.ns.length c3) ∧ w'.cell? ⟨w.heap.size,3,none⟩ = some (.slice a4 S.vs.length c4) ∧ w'.cell? ⟨bb,off + k * 3,none⟩ = some (.slice ja (fg l k).cs.length jc) ∧ w'.cell? ⟨bb,off + k * 3 + 1,none⟩ = some (.slice ka (fg l k).is.length kc) ∧ w'.cell? ⟨bb,off + k * 3 + 2,none⟩ = some (.slice la (fg l k).ns.length lc)) (with_reducible exact hk)
     (first | (go_at_call 51; refine (HFk.out _ (by first | with_reducible exact hBw | with_reducible exact hBw.drew)).mono ?_; rintro r wz ⟨rfl,hb⟩; replace hk:=hold7k hb hk; replace hBw:=zqaa hBw hb; clear hb))
    have HF:=zh (zxac (n:=fitsL S (fg l k)) hBw);clear hk hBw;go_wp2_with fail;go_ret2;exact HF.out
   ·rw [hft] at HFk;have HIs:=zh ((HFx.out.below HBv.out).i);rw [HOne.out,if_pos hft] at HSt;have HMy:=zh (fun j (hj:j < (fg l k).is.length) h => zqpl hj h)
    have HMn:=zh (@zqz7 (fg l k).is);obtain ⟨x0,x1,x2,x3,f0,f1,f2⟩:=hk;clear HOne;go_wp2_with fail;go_loopw [11] (fun jv wq => ∃ j:Nat,j ≤ (fg l k).is.length ∧ jv = .int .i64 j ∧ wv = wq ∧ Hid (∀ q,q < j → (fg l k).is.getD q 0 ≠ -9223372036854775808)) (fun jv _ => (fg l k).is.length - (intOf jv).toNat)
    case atStart => exact ⟨0,Nat.zero_le _,rfl,rfl,zh (fun q hq => by omega)⟩
    case round =>
     obtain ⟨j,hj,rfl,rfl,HJ⟩:=hrel
     by_cases hlj:j < (fg l k).is.length
     ·have hlj':(j:Int) < ((fg l k).is.length:Int):=by omega
      have hlm:=HLf.out k hlt;obtain ⟨b2,o2,rfl,-,g0⟩:=zqz5 HIs.out hlj
      by_cases hx:(fg l k).is.getD j 0 = -9223372036854775808
      ·have hR:=HSt.out;rw [if_neg (by rw [if_pos (HMy.out j hlj hx)]; decide),if_pos (HMy.out j hlj hx)] at hR
       subst hR;rw [hx] at g0;have HF:=zh (zxac (n:=10) HBv.out);clear HJ hx HSt HMy HMn HIs HS HO HX HOv HXv HFt HOf HFk;go_wp2_with fail;go_ret2;exact HF.out
      ·have HJ2:=zh (fun q (hq:q < j + 1) => show (fg l k).is.getD q 0 ≠ -9223372036854775808 from if e:q = j then e ▸ hx else HJ.out q (by omega))
       have hxx:((fg l k).is.getD j 0 == -9223372036854775808) = false:=by simpa using hx
       generalize (fg l k).is.getD j 0 = x at g0 hxx;clear hx HJ;go_wp2_with fail;go_roundw
       case rel => exact ⟨j + 1,by omega,by go_num,by trivial,HJ2⟩
       case measure => simp [intOf]; omega
     ·obtain rfl:j = (fg l k).is.length:=by omega
      have hlj':¬ ((fg l k).is.length:Int) < ((fg l k).is.length:Int):=by omega
      have hmn:=HMn.out HJ.out;have HSt2:=zh (HSt.out);rw [hmn] at HSt2;have h10:oneE S m (fg l k) = 0:=by rw [HOf.out (fg l k),if_pos hft,hmn]; rfl
      have HO2:=zh (fun w1 (hb:Below w.heap.size w w1) => HO1.out w1 _ _ _ k hb hlt (HFx.out.below hb) h10)
      have HWt:=zh (fun w1 c I N (hr:RdR w1 (.slice og on oc) ps) (hc:CeM w1 I N c) (ho:OC S m (fg l k) c) => zxbg w1 _ ps c I N hr hc (ho.sv (HWf.out k hlt) h10).ref (fun p hp => (HS.out.v _ (List.mem_map_of_mem hp)).ref) (by have:=HS.out.n; simp at this; omega))
      have HNx:=zh (fun (ho:OC S m (fg l k) (celC S m (fg l k))) e => HS.out.next hlt h10 (ho.sv (HWf.out k hlt) h10) (by omega) e)
      have HSp:=zh (HS.out.step hlt);rw [if_pos h10] at HSp;unfold WithR at HWt;replace hk:=hold7k (Below.refl wv.heap.size wv).drew ⟨x0,x1,x2,x3,f0,f1,f2⟩;have hBw:=HBv.out.drew;have hVw:Below wv.heap.size wv wv.drew:=(Below.refl wv.heap.size wv).drew;clear HMy HMn HJ HSt HSt2 hmn h10 HS HO HX HO1 HOf HFk HIs x0 x1 x2 x3 f0 f1 f2;go_wp2_with fail;go_region_held3 (fun w' => w'.cell? ⟨w.heap.size,0,none⟩ = some (.slice a1 S.ds.length c1) ∧ w'.cell? ⟨w.heap.size,1,none⟩ = some (.slice a2 S.is.length c2) ∧ w'.cell? ⟨w.heap.size,2,none⟩ = some (.slice a3 S.ns.length c3) ∧ w'.cell? ⟨w.heap.size,3,none⟩ = some (.slice a4 S.vs.length c4) ∧ w'.cell? ⟨bb,off + k * 3,none⟩ = some (.slice ja (fg l k).cs.length jc) ∧ w'.cell? ⟨bb,off + k * 3 + 1,none⟩ = some (.slice ka (fg l k).is.length kc) ∧ w'.cell? ⟨bb,off + k * 3 + 2,none⟩ = some (.slice la (fg l k).ns.length lc)) (with_reducible exact hk)
       (first
        | (go_at_call 53; refine (HO2.out _ hBw).mono ?_; rintro r wz ⟨c,pp,kk,qq,ll,rfl,hcm,hoc,hb⟩; replace hk:=hold7k hb hk; replace hBw:=zqaa hBw hb; replace hVw:=zqaa hVw hb; clear hb; obtain rfl:=zqka hoc)
        | (go_at_call 52; refine (HWt.out _ _ _ _ (HOv.out.below hVw) hcm hoc).mono ?_; rintro r wy ⟨rr,ps',rfl,hrd,hmap,hb⟩; obtain ⟨ra,rc,rfl⟩:=hrd.any; replace hk:=hold7k hb hk; replace hBw:=zqaa hBw hb; replace hVw:=zqaa hVw hb; clear hb))
      have HXy:=zh (HXv.out.below hVw);have HBy:=zh hBw;have HRd:=zh hrd;have HN2:=zh (HNx.out hoc);rw [← hmap] at HN2;have hsp:=HSp.out;clear hVw hBw hk hrd hmap hcm hoc HSp HNx HWt HO2 HXv HOv HFt HWf HLf;generalize (withL (ps.map cellOf) (celC S m (fg l k))).1 = E at *
      by_cases hE:E = 0
      ·have HS2:=zh (HN2.out hE);subst hE;clear hsp HN2;go_wp2_with fail;go_roundw
       case rel => exact ⟨k + 1,ps',by omega,by go_num,rfl,⟨_,_,_,rfl⟩,HRd,HS2,HBy,HXy⟩
       case measure => simp [intOf]; omega
      ·rw [if_neg hE] at hsp;subst hsp;have hE':¬ (E:Int) = 0:=by omega
       have HF:=zh (zxac (n:=E) HBy.out);clear HN2;go_wp2_with fail;go_ret2;exact HF.out
  ·obtain rfl:k = l.length:=by omega
   have hlt':¬ (l.length:Int) < (l.length:Int):=by omega
   have hR:=HS.out.end;subst hR;clear HFt HOf;go_wp2_with fail;go_ret2;exact ⟨_,ps,rfl,HO.out,rfl,HW.out⟩
theorem JW.right {x y z:Wh} (h:JW x y z) (hx:rightW x = true) (hy:rightW y = true) (hl:z.sq.length ≤ 7):rightW z = true:=by
 unfold rightW at *;rw [zqlx.2 h.ty];simp only [Bool.and_eq_true,decide_eq_true_eq,Bool.and_true] at *;have h1:=h.sum;have h2:=h.abs;have h3:=h.mn;have h4:=h.mx;omega
theorem zxba {a b c d:Nat} (h1:lessB b a = false) (h2:lessB d c = false):lessB (if lessB b d then d else b) (if lessB c a then c else a) = false:=by
 unfold lessB at *;simp only [decide_eq_true_eq,decide_eq_false_iff_not] at *
 split <;> split <;> omega
theorem JR.right {x y z:Re} (h:JR x y z) (wx:ReW x) (wy:ReW y) (hx:rightR x = true) (hy:rightR y = true):rightR z = true:=by
 have hg:errN z.sum = 0:=zxa4 (Good.join (zqgs wx.sum h.e1).1 (zqgs wy.sum h.e2).1 h.ft) h.sum;unfold rightR at *;simp only [Bool.and_eq_true,decide_eq_true_eq,Bool.not_eq_true'] at *;refine ⟨hg,?_⟩;rw [h.mn,h.mx];exact zxba hx.2 hy.2
theorem JC.right {S:Sc} {m:Int} {a b c:Ce} (h:JC a b c) (he:errJ a b = 0) (wa:CeW a) (wb:CeW b) (ha:rightC S m a = true) (hb:rightC S m b = true) (hl:∀ k,k < c.is.length → (wg c.is k).sq.length ≤ 7):rightC S m c = true:=by
 obtain ⟨q1,q2,q3,-⟩:=zqfp he;unfold rightC validC at *;simp only [Bool.and_eq_true,decide_eq_true_eq] at *;obtain ⟨ha0,⟨⟨⟨⟨ha1,ha2⟩,ha3⟩,ha4⟩,ha5⟩,ha6⟩:=ha;obtain ⟨hb0,⟨⟨⟨⟨hb1,hb2⟩,hb3⟩,hb4⟩,hb5⟩,hb6⟩:=hb;refine ⟨ha0,⟨⟨⟨⟨by rw [h.key]; exact ha1,by rw [h.cnt]; omega⟩,by rw [h.li]; exact ha3⟩,by rw [h.ln]; exact ha4⟩,zqmh fun k hk => ?_⟩,zqmg fun k hk => ?_⟩
 ·have hk2:k < a.is.length:=by rw [← h.li]; exact hk
  exact (h.is k hk2).right (List.all_eq_true.1 ha5 k (by simpa using hk2)) (List.all_eq_true.1 hb5 k (by simpa using (by omega:k < b.is.length))) (hl k hk)
 ·have hk2:k < a.ns.length:=by rw [← h.ln]; exact hk
  exact (h.ns k hk2).right (wa.rg hk2) (wb.rg (by omega)) (List.all_eq_true.1 ha6 k (by simpa using hk2)) (List.all_eq_true.1 hb6 k (by simpa using (by omega:k < b.ns.length)))
theorem ow_ex (x:Int):∃ z,OW x z:=by
 obtain ⟨l,k1,k2,k3,-⟩:=zqn2 (x * x).toNat;have h0:0 ≤ x * x:=by
  rcases Int.le_total 0 x with h | h
  ·exact Int.mul_nonneg h h
  ·exact Int.mul_nonneg_of_nonpos_of_nonpos h h
 exact ⟨⟨x,x.natAbs,l,x,x⟩,rfl,rfl,k1,k2,by rw [k3]; omega,rfl,rfl⟩
theorem or_ex {x:Nat} (hx:W64 x):∃ z,OR x z:=by
 have hg:=(zqmx x hx).2.2;unfold Fits at hg;obtain ⟨a,k1,k2,k3,k4⟩:=zqn2 (unitsI x).natAbs;have hlen:a.length ≤ 70:=by
  apply k4
  by_cases h0:(unitsI x).natAbs = 0
  ·rw [h0]; exact Nat.pow_pos (by decide)
  ·exact zqub (m:=70) h0 (by omega)
 exact ⟨⟨encB (flagN x) (decide (unitsI x < 0)) a,x,x⟩,⟨a,k1,k2,k3,hlen,rfl⟩,rfl,rfl⟩
theorem oc_ex {S:Sc} {m:Int} {f:Fa} (hf:FaWf f):∃ c,OC S m f c:=by
 have e1:∀ k,∃ z,OW (f.is.getD k 0) z:=fun k => ow_ex _
 have e2:∀ k,∃ z,k < f.ns.length → OR (f.ns.getD k 0) z:=fun k => by
  by_cases hk:k < f.ns.length
  ·obtain ⟨z,hz⟩:=or_ex (zqd4 (P:=W64) hf.n hk);exact ⟨z,fun _ => hz⟩
  ·exact ⟨re0,fun h => absurd h hk⟩
 refine ⟨⟨ofL S m f.cs,1,(List.range f.is.length).map fun k => Classical.choose (e1 k),(List.range f.ns.length).map fun k => Classical.choose (e2 k)⟩,rfl,rfl,by simp,by simp,fun k hk => ?_,fun k hk => ?_⟩
 ·have e:wg ((List.range f.is.length).map fun k => Classical.choose (e1 k)) k = Classical.choose (e1 k):=by
   rw [zqaq (by simpa using hk)]; simp
  show OW _ (wg ((List.range f.is.length).map fun k => Classical.choose (e1 k)) k)
  rw [e]; exact Classical.choose_spec (e1 k)
 ·have e:rg ((List.range f.ns.length).map fun k => Classical.choose (e2 k)) k = Classical.choose (e2 k):=by
   rw [zqap (by simpa using hk)]; simp
  show OR _ (rg ((List.range f.ns.length).map fun k => Classical.choose (e2 k)) k)
  rw [e]; exact Classical.choose_spec (e2 k) hk
theorem zxb6 {S:Sc} {m:Int} {f:Fa} (hf:FaWf f):OC S m f (celC S m f):=by
 obtain ⟨c,hc⟩:=oc_ex (S:=S) (m:=m) hf;rw [← zqka hc];exact hc
end Go.Proofs.YtmnbljijnbhghaaGreatDoor
