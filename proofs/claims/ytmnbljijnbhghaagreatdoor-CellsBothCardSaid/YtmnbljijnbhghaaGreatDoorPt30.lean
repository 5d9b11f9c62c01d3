/- Contracts that the law leans on: Aggx Cele Celj Celp Celq. -/
import Derived.BigQuiet
import Derived.Deep.CutBlock
import Derived.Maps.OwnSet
import Derived.Maps.Ext
import Derived.Maps.RangeWalk
import Derived.Test.YtmnbljijnbhghaaGreatDoorPt02
import Derived.Test.YtmnbljijnbhghaaGreatDoorPt11
import Derived.Test.YtmnbljijnbhghaaGreatDoorPt12
import Derived.Test.YtmnbljijnbhghaaGreatDoorPt17
import Derived.Test.YtmnbljijnbhghaaGreatDoorPt26
import Derived.Test.YtmnbljijnbhghaaGreatDoorPt27
import Derived.Test.YtmnbljijnbhghaaGreatDoorPt29
namespace Go.Proofs.YtmnbljijnbhghaaGreatDoor
set_option maxRecDepth 100000
open Go.RowKit
set_option linter.unusedVariables false
set_option maxHeartbeats 4000000 in
theorem zqsq (u v:Value) (xs ys:List Int) (w:World) (hu:Ints .u32 w u xs) (hv:Ints .u32 w v ys) (hm:xs.length ≤ 9223372036854775807) :
  Calls Tryz.prog 70 #[u,v] w fun e w' => e = .returned (.bool (decide (xs = ys))) ∧ Drawn w w':=by
 obtain ⟨a,cap,rfl,h1,h3⟩:=hu;obtain ⟨a',cap',rfl,h1',h3'⟩:=hv;have HC:=zh h3;have HC':=zh h3';clear h3 h3'
 by_cases hn:xs.length = ys.length
 ·have HG:=zh (fun h => zqyg hn h)
  have HB:=zh (fun k h => zqz0 (xs:=xs) (ys:=ys) (k:=k) h)
  rw [← hn] at HC' ⊢;have HQ:=zh hn;clear h1 h1' hn;generalize decide (xs = ys) = R at *;go_enter Tryz.func70,Tryz.ntmps70;go_wp2_with fail;go_loopw [13] (fun i wr => ∃ k:Nat,k ≤ xs.length ∧ i = .int .i64 k ∧ Hid (Drawn w wr) ∧ Hid (∀ j,j < k → xs.getD j 0 = ys.getD j 0)) (fun i _ => xs.length - (intOf i).toNat)
  case atStart => exact ⟨0,Nat.zero_le _,rfl,zh (Drawn.refl _),zh (fun j hj => by omega)⟩
  case round =>
   obtain ⟨k,hk,rfl,HD,HJ⟩:=hrel
   by_cases hlk:k < xs.length
   ·have hlk':(k:Int) < (xs.length:Int):=by omega
    rcases HC.out with h3 | ⟨b,off,rfl,hlt,hc⟩
    ·rw [h3] at hlk; simp at hlk
    rcases HC'.out with h3 | ⟨b',off',rfl,hlt',hc'⟩
    ·have hn:=HQ.out; rw [h3] at hn; rw [hn] at hlk; simp at hlk
    have hx:wr.cell? ⟨b,off + k,none⟩ = some (.int .u32 (xs.getD k 0)):=(HD.out.below.cell (p:=⟨b,off + k,none⟩) hlt).trans (hc k hlk);have hx':wr.cell? ⟨b',off' + k,none⟩ = some (.int .u32 (ys.getD k 0)):=(HD.out.below.cell (p:=⟨b',off' + k,none⟩) hlt').trans (hc' k hlk);have HN:=zh (fun n => HD.out.next n)
    clear hc hc'
    by_cases hq:xs.getD k 0 = ys.getD k 0
    ·have HJ2:=zh (fun j (hj:j < k + 1) => show xs.getD j 0 = ys.getD j 0 from if h:j < k then HJ.out j h else by
      have e:j = k:=by omega
      rw [e]; exact hq)
     rw [← hq] at hx';have e:(xs.getD k 0 != xs.getD k 0) = false:=by simp
     clear hq;generalize xs.getD k 0 = x at hx hx' e;go_upto_region 6 with fail;go_quiet (fail);have HD2:=zh (HN.out nq);go_wp2;go_roundw
     case rel => exact ⟨k + 1,by omega,by go_num,HD2,HJ2⟩
     case measure => simp [intOf]; omega
    ·have hR:=HB.out k hq;subst hR;have e:(xs.getD k 0 != ys.getD k 0) = true:=by simpa using hq
     clear hq;generalize xs.getD k 0 = x at hx e;generalize ys.getD k 0 = y at hx' e;go_upto_region 6 with fail;go_quiet (fail);have HD2:=zh (HN.out nq);go_wp2;go_ret;exact ⟨rfl,HD2.out⟩
   ·have hke:k = xs.length:=by omega
    subst hke;have hR:=HG.out HJ.out;subst hR;go_wp2_with fail;go_ret;exact ⟨rfl,HD.out⟩
 ·rw [zqz1 hn];have hn2:((xs.length:Int) != (ys.length:Int)) = true:=by simp; omega
  go_enter Tryz.func70,Tryz.ntmps70;go_wp2_with fail;go_ret;exact ⟨rfl,Drawn.refl _⟩
theorem zqmk (v1 v2:Value) (a b:List Int) (w:World) (h1:Ints .u8 w v1 a) (h2:Ints .u8 w v2 b) (ha:Bt a) (hb:Bt b) :
  Calls Tryz.prog 72 #[v1,v2] w fun e w' => e = .returned (.bool (decide (a = b))) ∧ w = w':=by
 have c1:=zqel h1 ha;have c2:=zqel h2 hb;have HE:=zh (zqio ha hb);obtain ⟨p1,q1,rfl,-,-⟩:=h1;obtain ⟨p2,q2,rfl,-,-⟩:=h2;generalize strB a = A at *;generalize strB b = B at *;go_enter Tryz.func72,Tryz.ntmps72;go_wp2_with fail;go_ret;exact ⟨by show Ending.returned (Value.bool _) = _; rw [HE.out],rfl⟩
theorem zqfj {w:World} {cs ds:Array Value} {T:TypeId}:((w.alloc (.cells cs T)).alloc (.cells ds T)).heap[w.heap.size]? = some (.cells cs T (0,0)) ∧ ((w.alloc (.cells cs T)).alloc (.cells ds T)).heap[w.heap.size + 1]? = some (.cells ds T (0,0)) ∧ Below w.heap.size w ((w.alloc (.cells cs T)).alloc (.cells ds T)):=by
 have b1:=zqab w (.cells cs T);have b2:=zqab (w.alloc (.cells cs T)) (.cells ds T);have h1:(w.alloc (.cells cs T)).heap[w.heap.size]? = some (.cells cs T (0,0)):=heap_alloc_new w _;have h2:((w.alloc (.cells cs T)).alloc (.cells ds T)).heap[(w.alloc (.cells cs T)).heap.size]? = some (.cells ds T (0,0)):=heap_alloc_new _ _;simp only [World.size_alloc] at h2;refine ⟨?_,h2,zqaa b1 b2⟩;rw [b2.block _ (by simp)]; exact h1
set_option maxHeartbeats 8000000 in
theorem zqur (w:World) (x0 x1 x3 x4 y0 y1 y3 y4:Int) (lx ly:List Int) (p p':Option Addr) (c c':Nat) (hq:Ints .u32 w (.slice p lx.length c) lx) (hr:Ints .u32 w (.slice p' ly.length c') ly) (hm:lx.length ≤ 9223372036854775807) :
  Calls Tryz.prog 69 #[.agg #[.int .i64 x0,.int .i64 x1,.slice p lx.length c,.int .i64 x3,.int .i64 x4],.agg #[.int .i64 y0,.int .i64 y1,.slice p' ly.length c',.int .i64 y3,.int .i64 y4]] w fun e w' => e = .returned (.bool (sameWh ⟨x0,x1,lx,x3,x4⟩ ⟨y0,y1,ly,y3,y4⟩)) ∧ Below w.heap.size w w':=by
 have HE:=zh (fun w1 (hb:Below w.heap.size w w1) => zqsq (.slice p lx.length c) (.slice p' ly.length c') lx ly w1 (hq.below hb) (hr.below hb) hm)
 have HR:=zh (show sameWh ⟨x0,x1,lx,x3,x4⟩ ⟨y0,y1,ly,y3,y4⟩ = (x0 == y0 && x1 == y1 && x3 == y3 && x4 == y4 && decide (lx = ly)) from rfl);obtain ⟨b1,b2,b3⟩:=zqfj (w:=w) (T:=85) (cs:=#[.int .i64 x0,.int .i64 x1,.slice p lx.length c,.int .i64 x3,.int .i64 x4]) (ds:=#[.int .i64 y0,.int .i64 y1,.slice p' ly.length c',.int .i64 y3,.int .i64 y4]);have HX:=zh b1;have HY:=zh b2;have HB:=zh b3;generalize sameWh ⟨x0,x1,lx,x3,x4⟩ ⟨y0,y1,ly,y3,y4⟩ = R at *;generalize decide (lx = ly) = dl at *;clear hq hr hm b1 b2 b3;go_enter Tryz.func69,Tryz.ntmps69;go_upto_region 1 with fail;generalize (w.alloc (.cells #[.int .i64 x0,.int .i64 x1,.slice p lx.length c,.int .i64 x3,.int .i64 x4] 85)).alloc (.cells #[.int .i64 y0,.int .i64 y1,.slice p' ly.length c',.int .i64 y3,.int .i64 y4] 85) = W at *;obtain ⟨c0,c1,c2,c3,c4⟩:=row5 HX.out;obtain ⟨d0,d1,d2,d3,d4⟩:=row5 HY.out;have hcases:(x0 == y0) = false ∨ ((x0 == y0) = true ∧ (x1 == y1) = false) ∨ ((x0 == y0) = true ∧ (x1 == y1) = true):=by
  cases (x0 == y0) <;> cases (x1 == y1) <;> simp
 rcases hcases with e1 | ⟨e1,e2⟩ | ⟨e1,e2⟩
 ·have hR:R = false:=HR.out.trans (by rw [e1]; rfl)
  subst hR;clear HR HE;go_wp2_with fail;go_ret;exact ⟨rfl,HB.out⟩
 ·have hR:R = false:=HR.out.trans (by rw [e1,e2]; rfl)
  subst hR;clear HR HE;go_wp2_with fail;go_ret;exact ⟨rfl,HB.out⟩
 ·have hR:R = (x3 == y3 && x4 == y4 && dl):=HR.out.trans (by rw [e1,e2]; simp)
  clear HR;go_wp2_with fail;refine (HE.out _ HB.out).mono ?_; rintro e w1 ⟨rfl,hd⟩;have HB1:=zh (zqaa HB.out hd.below);have c3:=cell_later hd.below c3;have c4:=cell_later hd.below c4;have d3:=cell_later hd.below d3;have d4:=cell_later hd.below d4;clear hd HE;have hcases:dl = false ∨ (dl = true ∧ (x3 == y3) = false) ∨ (dl = true ∧ (x3 == y3) = true ∧ (x4 == y4) = false) ∨ (dl = true ∧ (x3 == y3) = true ∧ (x4 == y4) = true):=by
   cases dl <;> cases (x3 == y3) <;> cases (x4 == y4) <;> simp
  rcases hcases with rfl | ⟨rfl,e3⟩ | ⟨rfl,e3,e4⟩ | ⟨rfl,e3,e4⟩
  ·have hR2:R = false:=hR.trans (by simp)
   subst hR2;clear hR;go_wp2_with fail;go_ret;exact ⟨rfl,HB1.out⟩
  ·have hR2:R = false:=hR.trans (by rw [e3]; rfl)
   subst hR2;clear hR;go_wp2_with fail;go_ret;exact ⟨rfl,HB1.out⟩
  ·have hR2:R = false:=hR.trans (by rw [e3,e4]; rfl)
   subst hR2;clear hR;go_wp2_with fail;go_ret;exact ⟨rfl,HB1.out⟩
  ·have hR2:R = true:=hR.trans (by rw [e3,e4]; rfl)
   subst hR2;clear hR;go_wp2_with fail;go_ret;exact ⟨rfl,HB1.out⟩
set_option maxHeartbeats 8000000 in
theorem zquq (w:World) (x1 x2 y1 y2:Nat) (lx ly:List Int) (p p':Option Addr) (c c':Nat) (hq:Ints .u8 w (.slice p lx.length c) lx) (hr:Ints .u8 w (.slice p' ly.length c') ly) (hx:ReW ⟨lx,x1,x2⟩) (hy:ReW ⟨ly,y1,y2⟩) :
  Calls Tryz.prog 71 #[.agg #[.slice p lx.length c,.float .f64 x1,.float .f64 x2],.agg #[.slice p' ly.length c',.float .f64 y1,.float .f64 y2]] w fun e w' => e = .returned (.bool (sameRe ⟨lx,x1,x2⟩ ⟨ly,y1,y2⟩)) ∧ Below w.heap.size w w':=by
 have HE:=zh (fun w1 (hb:Below w.heap.size w w1) => zqmk (.slice p lx.length c) (.slice p' ly.length c') lx ly w1 (hq.below hb) (hr.below hb) hx.sum hy.sum)
 have H1:=zh (fun w1 => zqk1 x1 y1 w1 hx.mn hy.mn)
 have H2:=zh (fun w1 => zqk1 x2 y2 w1 hx.mx hy.mx)
 have HR:=zh (show sameRe ⟨lx,x1,x2⟩ ⟨ly,y1,y2⟩ = (decide (lx = ly) && sameB x1 y1 && sameB x2 y2) from rfl);obtain ⟨b1,b2,b3⟩:=zqfj (w:=w) (T:=90) (cs:=#[.slice p lx.length c,.float .f64 x1,.float .f64 x2]) (ds:=#[.slice p' ly.length c',.float .f64 y1,.float .f64 y2]);have HX:=zh b1;have HY:=zh b2;have HB:=zh b3;have hsf:=fun (w:World) (a:Addr) (m:Mode) (k:Nat) => zqa6 (P:=Tryz.prog) (w:=w) (a:=a) (m:=m) k
 generalize sameRe ⟨lx,x1,x2⟩ ⟨ly,y1,y2⟩ = R at *;generalize decide (lx = ly) = dl at *;generalize sameB x1 y1 = s1 at *;generalize sameB x2 y2 = s2 at *;clear hq hr hx hy b1 b2 b3;go_enter Tryz.func71,Tryz.ntmps71;go_upto_region 1 with fail;generalize (w.alloc (.cells #[.slice p lx.length c,.float .f64 x1,.float .f64 x2] 90)).alloc (.cells #[.slice p' ly.length c',.float .f64 y1,.float .f64 y2] 90) = W at *;obtain ⟨c0,c1,c2⟩:=row3 HX.out;obtain ⟨d0,d1,d2⟩:=row3 HY.out;go_wp2_with fail;refine (HE.out _ HB.out).mono ?_; rintro e w1 ⟨rfl,rfl⟩;have hR:=HR.out;clear HE HR;cases dl with
 | false =>
  subst hR;go_wp2_with fail;go_ret;exact ⟨rfl,HB.out⟩
 | true =>
  go_wp2_with fail;refine (H1.out _).mono ?_; rintro e w1 ⟨rfl,rfl⟩;cases s1 with
  | false =>
   subst hR;go_wp2_with fail;go_ret;exact ⟨rfl,HB.out⟩
  | true =>
   go_wp2_with fail;refine (H2.out _).mono ?_; rintro e w1 ⟨rfl,rfl⟩;cases s2 with
   | false =>
    subst hR;go_wp2_with fail;go_ret;exact ⟨rfl,HB.out⟩
   | true =>
    subst hR;go_wp2_with fail;go_ret;exact ⟨rfl,HB.out⟩
def eqsW (l m:List Wh):Bool:=decide (l.length = m.length) && (List.range l.length).all fun k => sameWh (wg l k) (wg m k)
set_option maxHeartbeats 8000000 in
theorem zqv7 (w:World) (u v:Value) (l m:List Wh) (hu:Wholes w u l) (hv:Wholes w v m) (hw:∀ x ∈ l,WhW x) (hw':∀ x ∈ m,WhW x) :
  Calls Tryz.prog 74 #[u,v,.func (.func 69) #[] #[]] w fun e w' => e = .returned (.bool (eqsW l m)) ∧ Below w.heap.size w w':=by
 have HU:=zh hu;have HV:=zh hv;have HW:=zh (fun k (hk:k < l.length) => show WhW (wg l k) by rw [zqaq hk]; exact hw _ (List.getElem_mem _))
 have HW':=zh (fun k (hk:k < m.length) => show WhW (wg m k) by rw [zqaq hk]; exact hw' _ (List.getElem_mem _))
 obtain ⟨a,cap,rfl,-,hmx,-⟩:=hu;obtain ⟨a',cap',rfl,-,-,-⟩:=hv
 by_cases hl:l.length = m.length
 ·have HY:=zh (fun (h:∀ k,k < l.length → sameWh (wg l k) (wg m k) = true) => show eqsW l m = true by unfold eqsW; rw [decide_eq_true hl,Bool.true_and]; exact List.all_eq_true.2 fun x hx => h x (by simpa using hx))
  have HN:=zh (fun k (hk:k < l.length) (h:sameWh (wg l k) (wg m k) = false) => show eqsW l m = false by unfold eqsW; rw [decide_eq_true hl,Bool.true_and]; exact List.all_eq_false.2 ⟨k,by simpa using hk,by simp [h]⟩)
  have hnn:((l.length:Int) != (m.length:Int)) = false:=by simp [hl]
  have HL:=zh hl;generalize eqsW l m = R at *;clear hw hw' hl;go_enter Tryz.func74,Tryz.ntmps74;go_wp2_with fail;go_loopw [17] (fun iv wr => ∃ k:Nat,k ≤ l.length ∧ iv = .int .i64 k ∧ Hid (Below w.heap.size w wr ∧ ∀ j,j < k → sameWh (wg l j) (wg m j) = true)) (fun iv _ => l.length - (intOf iv).toNat)
  case atStart => exact ⟨0,Nat.zero_le _,rfl,zh ⟨Below.refl _ _,fun j hj => by omega⟩⟩
  case round =>
   obtain ⟨k,hk,rfl,HS⟩:=hrel
   by_cases hlk:k < l.length
   ·have hlk':(k:Int) < (l.length:Int):=by omega
    have hkb0:k < m.length:=by have:=HL.out; omega
    have hkb:(k:Int) < (m.length:Int):=by omega
    have hle:Hid (k + 1 ≤ l.length):=zh (by omega)
    obtain ⟨ba,oa,qa,rfl,hqa⟩:=(HU.out.below HS.out.1).at hlk;obtain ⟨bb,ob,qb,rfl,hqb⟩:=(HV.out.below HS.out.1).at hkb0;obtain ⟨f0,f1,f2,f3,f4,f9⟩:=hqa;obtain ⟨g0,g1,g2,g3,g4,g9⟩:=hqb;have HWx:=HW.out k hlk;have HWy:=HW'.out k hkb0;have HNk:=zh (fun h => HN.out k hlk h)
    have HSn:=zh (fun (h:sameWh (wg l k) (wg m k) = true) j (hj:j < k + 1) => show sameWh (wg l j) (wg m j) = true from if e:j = k then e ▸ h else HS.out.2 j (by omega))
    have HBk:=zh HS.out.1;generalize wg l k = x at *;generalize wg m k = y at *;obtain ⟨x0,x1,lx,x3,x4⟩:=x;obtain ⟨y0,y1,ly,y3,y4⟩:=y;have hf:=f9;have hg:=g9;obtain ⟨p,c,rfl,-,-⟩:=f9;obtain ⟨p',c',rfl,-,-⟩:=g9
    dsimp only at f0 f1 f2 f3 f4 g0 g1 g2 g3 g4
    have HC:=zh (fun w1 (hb:Below wr.heap.size wr w1) => zqur w1 x0 x1 x3 x4 y0 y1 y3 y4 lx ly p p' c c' (hf.below hb) (hg.below hb) HWx.len)
    have b1:=zqab wr (.cells #[.int .i64 x0,.int .i64 x1,.slice p lx.length c,.int .i64 x3,.int .i64 x4] 85);have g0:=cell_later b1 g0;have g1:=cell_later b1 g1;have g2:=cell_later b1 g2;have g3:=cell_later b1 g3;have g4:=cell_later b1 g4;have HB2:=zh (zqaa b1 (zqab (wr.alloc (.cells #[.int .i64 x0,.int .i64 x1,.slice p lx.length c,.int .i64 x3,.int .i64 x4] 85)) (.cells #[.int .i64 y0,.int .i64 y1,.slice p' ly.length c',.int .i64 y3,.int .i64 y4] 85)));clear hf hg HWx HWy HS b1;generalize sameWh ⟨x0,x1,lx,x3,x4⟩ ⟨y0,y1,ly,y3,y4⟩ = T at *;go_wp2_with fail;refine (HC.out _ HB2.out).mono ?_; rintro e w1 ⟨rfl,hb1⟩;have HB1:=zh (zqaa (zqaa HBk.out HB2.out) hb1);clear hb1 HC HB2;cases T with
    | true =>
     have HJ:=zh (HSn.out rfl);go_wp2_with fail;go_roundw
     case rel => exact ⟨k + 1,hle.out,by go_num,zh ⟨HB1.out,HJ.out⟩⟩
     case measure => simp [intOf]; omega
    | false =>
     have hR:=HNk.out rfl;subst hR;go_wp2_with fail;go_ret;exact ⟨rfl,HB1.out⟩
   ·have:k = l.length:=by omega
    subst this;have hR:=HY.out HS.out.2;subst hR;go_wp2_with fail;go_ret;exact ⟨rfl,HS.out.1⟩
 ·have hR:eqsW l m = false:=by unfold eqsW; rw [decide_eq_false hl]; rfl
  rw [hR];have hnn:((l.length:Int) != (m.length:Int)) = true:=by simp; omega
  clear HU HV HW HW' hw hw' hl;go_enter Tryz.func74,Tryz.ntmps74;go_wp2_with fail;go_ret;exact ⟨rfl,Below.refl _ _⟩
def eqsR (l m:List Re):Bool:=decide (l.length = m.length) && (List.range l.length).all fun k => sameRe (rg l k) (rg m k)
set_option maxHeartbeats 8000000 in
theorem zqv6 (w:World) (u v:Value) (l m:List Re) (hu:Reals w u l) (hv:Reals w v m) (hw:∀ x ∈ l,ReW x) (hw':∀ x ∈ m,ReW x) :
  Calls Tryz.prog 75 #[u,v,.func (.func 71) #[] #[]] w fun e w' => e = .returned (.bool (eqsR l m)) ∧ Below w.heap.size w w':=by
 have HU:=zh hu;have HV:=zh hv;have HW:=zh (fun k (hk:k < l.length) => show ReW (rg l k) by rw [zqap hk]; exact hw _ (List.getElem_mem _))
 have HW':=zh (fun k (hk:k < m.length) => show ReW (rg m k) by rw [zqap hk]; exact hw' _ (List.getElem_mem _))
 obtain ⟨a,cap,rfl,-,hmx,-⟩:=hu;obtain ⟨a',cap',rfl,-,-,-⟩:=hv
 by_cases hl:l.length = m.length
 ·have HY:=zh (fun (h:∀ k,k < l.length → sameRe (rg l k) (rg m k) = true) => show eqsR l m = true by unfold eqsR; rw [decide_eq_true hl,Bool.true_and]; exact List.all_eq_true.2 fun x hx => h x (by simpa using hx))
  have HN:=zh (fun k (hk:k < l.length) (h:sameRe (rg l k) (rg m k) = false) => show eqsR l m = false by unfold eqsR; rw [decide_eq_true hl,Bool.true_and]; exact List.all_eq_false.2 ⟨k,by simpa using hk,by simp [h]⟩)
  have hnn:((l.length:Int) != (m.length:Int)) = false:=by simp [hl]
  have HL:=zh hl;generalize eqsR l m = R at *;clear hw hw' hl;go_enter Tryz.func75,Tryz.ntmps75;go_wp2_with fail;go_loopw [17] (fun iv wr => ∃ k:Nat,k ≤ l.length ∧ iv = .int .i64 k ∧ Hid (Below w.heap.size w wr ∧ ∀ j,j < k → sameRe (rg l j) (rg m j) = true)) (fun iv _ => l.length - (intOf iv).toNat)
  case atStart => exact ⟨0,Nat.zero_le _,rfl,zh ⟨Below.refl _ _,fun j hj => by omega⟩⟩
  case round =>
   obtain ⟨k,hk,rfl,HS⟩:=hrel
   by_cases hlk:k < l.length
   ·have hlk':(k:Int) < (l.length:Int):=by omega
    have hkb0:k < m.length:=by have:=HL.out; omega
    have hkb:(k:Int) < (m.length:Int):=by omega
    have hle:Hid (k + 1 ≤ l.length):=zh (by omega)
    obtain ⟨ba,oa,qa,rfl,hqa⟩:=(HU.out.below HS.out.1).at hlk;obtain ⟨bb,ob,qb,rfl,hqb⟩:=(HV.out.below HS.out.1).at hkb0;obtain ⟨f0,f1,f2,f9⟩:=hqa;obtain ⟨g0,g1,g2,g9⟩:=hqb;have HWx:=HW.out k hlk;have HWy:=HW'.out k hkb0;have HNk:=zh (fun h => HN.out k hlk h)
    have HSn:=zh (fun (h:sameRe (rg l k) (rg m k) = true) j (hj:j < k + 1) => show sameRe (rg l j) (rg m j) = true from if e:j = k then e ▸ h else HS.out.2 j (by omega))
    have HBk:=zh HS.out.1;generalize rg l k = x at *;generalize rg m k = y at *;obtain ⟨lx,x1,x2⟩:=x;obtain ⟨ly,y1,y2⟩:=y;have hf:=f9;have hg:=g9;obtain ⟨p,c,rfl,-,-⟩:=f9;obtain ⟨p',c',rfl,-,-⟩:=g9
    dsimp only at f0 f1 f2 g0 g1 g2
    have HC:=zh (fun w1 (hb:Below wr.heap.size wr w1) => zquq w1 x1 x2 y1 y2 lx ly p p' c c' (hf.below hb) (hg.below hb) HWx HWy)
    have b1:=zqab wr (.cells #[.slice p lx.length c,.float .f64 x1,.float .f64 x2] 90);have g0:=cell_later b1 g0;have g1:=cell_later b1 g1;have g2:=cell_later b1 g2;have HB2:=zh (zqaa b1 (zqab (wr.alloc (.cells #[.slice p lx.length c,.float .f64 x1,.float .f64 x2] 90)) (.cells #[.slice p' ly.length c',.float .f64 y1,.float .f64 y2] 90)));clear hf hg HWx HWy HS b1;generalize sameRe ⟨lx,x1,x2⟩ ⟨ly,y1,y2⟩ = T at *;have hsf:=fun (w:World) (a:Addr) (m:Mode) (k:Nat) => zqa6 (P:=Tryz.prog) (w:=w) (a:=a) (m:=m) k
    go_wp2_with fail;refine (HC.out _ HB2.out).mono ?_; rintro e w1 ⟨rfl,hb1⟩;have HB1:=zh (zqaa (zqaa HBk.out HB2.out) hb1);clear hb1 HC HB2;cases T with
    | true =>
     have HJ:=zh (HSn.out rfl);go_wp2_with fail;go_roundw
     case rel => exact ⟨k + 1,hle.out,by go_num,zh ⟨HB1.out,HJ.out⟩⟩
     case measure => simp [intOf]; omega
    | false =>
     have hR:=HNk.out rfl;subst hR;go_wp2_with fail;go_ret;exact ⟨rfl,HB1.out⟩
   ·have:k = l.length:=by omega
    subst this;have hR:=HY.out HS.out.2;subst hR;go_wp2_with fail;go_ret;exact ⟨rfl,HS.out.1⟩
 ·have hR:eqsR l m = false:=by unfold eqsR; rw [decide_eq_false hl]; rfl
  rw [hR];have hnn:((l.length:Int) != (m.length:Int)) = true:=by simp; omega
  clear HU HV HW HW' hw hw' hl;go_enter Tryz.func75,Tryz.ntmps75;go_wp2_with fail;go_ret;exact ⟨rfl,Below.refl _ _⟩
theorem zqxi (a b:Ce):sameC a b = (a.key == b.key && a.cnt == b.cnt && eqsW a.is b.is && eqsR a.ns b.ns):=by
 unfold sameC eqsW eqsR;cases (a.key == b.key) <;> cases (a.cnt == b.cnt) <;> cases decide (a.is.length = b.is.length) <;> cases decide (a.ns.length = b.ns.length) <;> cases ((List.range a.is.length).all fun k => sameWh (wg a.is k) (wg b.is k)) <;> simp
set_option maxHeartbeats 8000000 in
theorem zqor (w:World) (a b:Ce) (I N I' N':Value) (h:CeM w I N a) (h':CeM w I' N' b) (ha:CeW a) (hb:CeW b) :
  Calls Tryz.prog 40 #[CeV a I N,CeV b I' N'] w fun e w' => e = .returned (.bool (sameC a b)) ∧ Below w.heap.size w w':=by
 have HEW:=zh (fun w1 (hb1:Below w.heap.size w w1) => zqv7 w1 I I' a.is b.is (h.i.below hb1) (h'.i.below hb1) ha.is hb.is)
 have HER:=zh (fun w1 (hb1:Below w.heap.size w w1) => zqv6 w1 N N' a.ns b.ns (h.n.below hb1) (h'.n.below hb1) ha.ns hb.ns)
 have HR:=zh (zqxi a b);obtain ⟨⟨p,k1,rfl⟩,p2,k2,rfl⟩:=h.slices;obtain ⟨⟨p',k1',rfl⟩,p2',k2',rfl⟩:=h'.slices;obtain ⟨b1,b2,b3⟩:=zqfj (w:=w) (T:=38) (cs:=#[.int .u64 a.key,.int .i64 a.cnt,.slice p a.is.length k1,.slice p2 a.ns.length k2]) (ds:=#[.int .u64 b.key,.int .i64 b.cnt,.slice p' b.is.length k1',.slice p2' b.ns.length k2']);have HX:=zh b1;have HY:=zh b2;have HB:=zh b3;generalize sameC a b = R at *;generalize eqsW a.is b.is = A at *;generalize eqsR a.ns b.ns = B at *;clear h h' ha hb b1 b2 b3;go_enter Tryz.func40,Tryz.ntmps40;go_upto_region 1 with fail;generalize (w.alloc (CeO a (.slice p a.is.length k1) (.slice p2 a.ns.length k2))).alloc (CeO b (.slice p' b.is.length k1') (.slice p2' b.ns.length k2')) = W at *;obtain ⟨⟨x0,x1,x2,x3⟩,-⟩:=zqac HX.out;obtain ⟨⟨y0,y1,y2,y3⟩,-⟩:=zqac HY.out;have hcases:(a.key == b.key) = false ∨ ((a.key == b.key) = true ∧ (a.cnt == b.cnt) = false) ∨ ((a.key == b.key) = true ∧ (a.cnt == b.cnt) = true):=by
  cases (a.key == b.key) <;> cases (a.cnt == b.cnt) <;> simp
 rcases hcases with e1 | ⟨e1,e2⟩ | ⟨e1,e2⟩
 ·have hR:R = false:=HR.out.trans (by rw [e1]; rfl)
  subst hR;clear HR HEW HER;go_wp2_with fail;go_ret;exact ⟨rfl,HB.out⟩
 ·have hR:R = false:=HR.out.trans (by rw [e1,e2]; rfl)
  subst hR;clear HR HEW HER;go_wp2_with fail;go_ret;exact ⟨rfl,HB.out⟩
 ·have hR:R = (A && B):=HR.out.trans (by rw [e1,e2]; simp)
  clear HR;go_wp2_with fail;refine (HEW.out _ HB.out).mono ?_; rintro e w1 ⟨rfl,hb⟩;have HB1:=zh (zqaa HB.out hb);have x3:=cell_later hb x3;have y3:=cell_later hb y3;clear hb HEW;cases A with
  | false =>
   subst hR;go_wp2_with fail;go_ret;exact ⟨rfl,HB1.out⟩
  | true =>
   simp only [Bool.true_and] at hR;subst hR;go_wp2_with fail;refine (HER.out _ HB1.out).mono ?_; rintro e w2 ⟨rfl,hb⟩;have HB2:=zh (zqaa HB1.out hb);clear hb HER x3 y3;cases R
   ·go_wp2_with fail;go_ret;exact ⟨rfl,HB2.out⟩
   ·go_wp2_with fail;go_ret;exact ⟨rfl,HB2.out⟩
def eqsC (l m:List Ce):Bool:=decide (l.length = m.length) && (List.range l.length).all fun k => sameC (cg l k) (cg m k)
set_option maxHeartbeats 8000000 in
theorem zqw6 (w:World) (u v:Value) (l m:List Ce) (hu:Cells w u l) (hv:Cells w v m) (hw:LsW l) (hw':LsW m) :
  Calls Tryz.prog 39 #[u,v,.func (.func 40) #[] #[]] w fun e w' => e = .returned (.bool (eqsC l m)) ∧ Below w.heap.size w w':=by
 have HU:=zh hu;have HV:=zh hv;have HW:=zh (fun k (hk:k < l.length) => hw.cg hk)
 have HW':=zh (fun k (hk:k < m.length) => hw'.cg hk)
 obtain ⟨a,cap,rfl,-,hmx,-⟩:=hu;obtain ⟨a',cap',rfl,-,-,-⟩:=hv
 by_cases hl:l.length = m.length
 ·have HY:=zh (fun (h:∀ k,k < l.length → sameC (cg l k) (cg m k) = true) => show eqsC l m = true by unfold eqsC; rw [decide_eq_true hl,Bool.true_and]; exact List.all_eq_true.2 fun x hx => h x (by simpa using hx))
  have HN:=zh (fun k (hk:k < l.length) (h:sameC (cg l k) (cg m k) = false) => show eqsC l m = false by unfold eqsC; rw [decide_eq_true hl,Bool.true_and]; exact List.all_eq_false.2 ⟨k,by simpa using hk,by simp [h]⟩)
  have hnn:((l.length:Int) != (m.length:Int)) = false:=by simp [hl]
  have HL:=zh hl;generalize eqsC l m = R at *;clear hw hw' hl;go_enter Tryz.func39,Tryz.ntmps39;go_wp2_with fail;go_loopw [17] (fun iv wr => ∃ k:Nat,k ≤ l.length ∧ iv = .int .i64 k ∧ Hid (Below w.heap.size w wr ∧ ∀ j,j < k → sameC (cg l j) (cg m j) = true)) (fun iv _ => l.length - (intOf iv).toNat)
  case atStart => exact ⟨0,Nat.zero_le _,rfl,zh ⟨Below.refl _ _,fun j hj => by omega⟩⟩
  case round =>
   obtain ⟨k,hk,rfl,HS⟩:=hrel
   by_cases hlk:k < l.length
   ·have hlk':(k:Int) < (l.length:Int):=by omega
    have hkb0:k < m.length:=by have:=HL.out; omega
    have hkb:(k:Int) < (m.length:Int):=by omega
    have hle:Hid (k + 1 ≤ l.length):=zh (by omega)
    obtain ⟨ba,oa,rfl,-,I,N,hqa⟩:=(HU.out.below HS.out.1).at hlk;obtain ⟨bb,ob,rfl,-,J,M,hqb⟩:=(HV.out.below HS.out.1).at hkb0;have HWx:=HW.out k hlk;have HWy:=HW'.out k hkb0;have HNk:=zh (fun h => HN.out k hlk h)
    have HSn:=zh (fun (h:sameC (cg l k) (cg m k) = true) j (hj:j < k + 1) => show sameC (cg l j) (cg m j) = true from if e:j = k then e ▸ h else HS.out.2 j (by omega))
    have HBk:=zh HS.out.1;generalize cg l k = x at *;generalize cg m k = y at *;have HC:=zh (fun w1 (hb:Below wr.heap.size wr w1) => zqor w1 x y I N J M (hqa.m.below hb) (hqb.m.below hb) HWx HWy)
    obtain ⟨⟨p,c,rfl⟩,q,d,rfl⟩:=hqa.m.slices;obtain ⟨⟨p',c',rfl⟩,q',d',rfl⟩:=hqb.m.slices;obtain ⟨f0,f1,f2,f3,-⟩:=hqa;obtain ⟨g0,g1,g2,g3,-⟩:=hqb;have b1:=zqab wr (CeO x (.slice p x.is.length c) (.slice q x.ns.length d));have g0:=cell_later b1 g0;have g1:=cell_later b1 g1;have g2:=cell_later b1 g2;have g3:=cell_later b1 g3;have HB2:=zh (zqaa b1 (zqab (wr.alloc (CeO x (.slice p x.is.length c) (.slice q x.ns.length d))) (CeO y (.slice p' y.is.length c') (.slice q' y.ns.length d'))));clear HWx HWy HS b1;generalize sameC x y = T at *;obtain ⟨x0,x1,x2,x3⟩:=x;obtain ⟨y0,y1,y2,y3⟩:=y
    dsimp only at f0 f1 f2 f3 g0 g1 g2 g3
    go_wp2_with fail;refine (HC.out _ HB2.out).mono ?_; rintro e w1 ⟨rfl,hb1⟩;have HB1:=zh (zqaa (zqaa HBk.out HB2.out) hb1);clear hb1 HC HB2;cases T with
    | true =>
     have HJ:=zh (HSn.out rfl);go_wp2_with fail;go_roundw
     case rel => exact ⟨k + 1,hle.out,by go_num,zh ⟨HB1.out,HJ.out⟩⟩
     case measure => simp [intOf]; omega
    | false =>
     have hR:=HNk.out rfl;subst hR;go_wp2_with fail;go_ret;exact ⟨rfl,HB1.out⟩
   ·have:k = l.length:=by omega
    subst this;have hR:=HY.out HS.out.2;subst hR;go_wp2_with fail;go_ret;exact ⟨rfl,HS.out.1⟩
 ·have hR:eqsC l m = false:=by unfold eqsC; rw [decide_eq_false hl]; rfl
  rw [hR];have hnn:((l.length:Int) != (m.length:Int)) = true:=by simp; omega
  clear HU HV HW HW' hw hw' hl;go_enter Tryz.func39,Tryz.ntmps39;go_wp2_with fail;go_ret;exact ⟨rfl,Below.refl _ _⟩
theorem zqos (w:World) (u v:Value) (l m:List Ce) (hu:Cells w u l) (hv:Cells w v m) (hw:LsW l) (hw':LsW m) :
  Calls Tryz.prog 15 #[u,v] w fun e w' => e = .returned (.bool (eqsC l m)) ∧ Below w.heap.size w w':=by
 have HF:=zh (zqw6 w u v l m hu hv hw hw');clear hu hv hw hw';go_enter Tryz.func15,Tryz.ntmps15;go_wp2_with fail;refine (HF.out).mono ?_; rintro e w1 ⟨rfl,hb⟩;have HB:=zh hb;clear hb;go_wp2_with fail;go_ret;exact ⟨rfl,HB.out⟩
def lookC (l:List Ce) (k:Int):Option Ce:=l.find? fun c => decide (c.key = k)
theorem zqbn {x:Ce} {l:List Ce} (h:risingC (x :: l)):risingC l:=(List.pairwise_cons.1 h).2
theorem zqaz {x:Ce} {l:List Ce} (h:risingC (x :: l)):∀ c ∈ l,x.key < c.key:=(List.pairwise_cons.1 h).1
theorem zqkn {l:List Ce} {c:Ce} (h:∀ x ∈ l,x.key ≠ c.key):(withL l c).1 = 0 ∧ ∀ z,z ∈ (withL l c).2 ↔ z = c ∨ z ∈ l:=by
 induction l with
 | nil => exact ⟨rfl,fun z => by simp [withL]⟩
 | cons x l ih =>
  obtain ⟨h1,h2⟩:=ih fun y hy => h y (List.mem_cons_of_mem _ hy)
  have hx:=h x (List.mem_cons_self ..);unfold withL
  by_cases e:x.key < c.key
  ·rw [if_pos e,if_pos h1];refine ⟨rfl,fun z => ?_⟩
   rw [List.mem_cons,h2,List.mem_cons]
   constructor
   ·rintro (q | q | q) <;> simp [q]
   ·rintro (q | q | q) <;> simp [q]
  ·rw [if_neg e,if_neg hx];exact ⟨rfl,fun z => by simp⟩
structure Sm (c:Ce):Prop where
 w:CeW c
 s:ShortC 900 c
 r:∀ k,k < c.ns.length → (rg c.ns k).sum.length ≤ 100000
theorem Sm.own {c:Ce} (h:Sm c):c.is.length ≤ 1000 ∧ c.ns.length ≤ 1000 ∧ (∀ k,k < c.is.length → (wg c.is k).sq.length ≤ 100000) ∧ ∀ k,k < c.ns.length → (rg c.ns k).sum.length ≤ 100000 :=
 ⟨Nat.le_trans h.s.li (by decide),Nat.le_trans h.s.ln (by decide),fun k hk => Nat.le_trans (h.s.sq k hk) (by decide),h.r⟩
theorem zqtu (w:World) (p:Value × Value × Ce):NewsAt (w.alloc (.cells #[.int .u64 p.2.2.key,.int .i64 p.2.2.cnt,p.1,p.2.1] 38)) (.slice (some ⟨w.heap.size,0,none⟩) 1 1) 1 (rowC p):=by
 refine ⟨_,_,rfl,.inr ⟨w.heap.size,0,rfl,fun j u hu => ?_⟩⟩
 have h:=heap_alloc_new w (.cells #[.int .u64 p.2.2.key,.int .i64 p.2.2.cnt,p.1,p.2.1] 38);obtain ⟨r0,r1,r2,r3⟩:=row4 h;have hj:j < 4:=(List.getElem?_eq_some_iff.1 hu).1;rw [Nat.zero_add];rcases (by omega:j = 0 ∨ j = 1 ∨ j = 2 ∨ j = 3) with rfl | rfl | rfl | rfl
 ·obtain rfl:=Option.some.inj hu; exact r0
 ·obtain rfl:=Option.some.inj hu; exact r1
 ·obtain rfl:=Option.some.inj hu; exact r2
 ·obtain rfl:=Option.some.inj hu; exact r3
end Go.Proofs.YtmnbljijnbhghaaGreatDoor
namespace Go.Proofs.YtmnbljijnbhghaaGreatDoor
set_option maxRecDepth 100000
open Go.RowKit Go.Maps
set_option linter.unusedVariables false
theorem zqde {l:List Ce} {k:Int} {x:Ce} (h:lookC l k = some x):x ∈ l ∧ x.key = k:=by
 unfold lookC at h;exact ⟨List.mem_of_find?_eq_some h,by simpa using List.find?_some h⟩
theorem zqg3 {l:List Ce} {k:Int} (h:lookC l k = none):∀ c ∈ l,c.key ≠ k:=by
 unfold lookC at h;rw [List.find?_eq_none] at h;intro c hc e;exact h c hc (by simpa using e)
theorem zqfx {l:List Ce} {k:Int}:(lookC l k).isSome = true ↔ ∃ c ∈ l,c.key = k:=by
 cases h:lookC l k with
 | none => exact ⟨fun q => (by cases q),fun ⟨c,hc,e⟩ => absurd e (zqg3 h c hc)⟩
 | some x => exact ⟨fun _ => ⟨x,zqde h⟩,fun _ => rfl⟩
theorem zqia {l:List Ce} (hr:risingC l) {c:Ce} (hc:c ∈ l):lookC l c.key = some c:=by
 cases h:lookC l c.key with
 | none => exact absurd rfl (zqg3 h c hc)
 | some x =>
  obtain ⟨h1,h2⟩:=zqde h;obtain ⟨i,hi,rfl⟩:=List.getElem_of_mem h1;obtain ⟨j,hj,rfl⟩:=List.getElem_of_mem hc;unfold risingC at hr;rw [List.pairwise_iff_getElem] at hr;rcases Nat.lt_trichotomy i j with q | q | q
  ·have:=hr i j hi hj q; omega
  ·subst q; rfl
  ·have:=hr j i hj hi q; omega
theorem zqx1 {l:List Ce} {c:Ce} (hr:risingC l) (h:∀ x ∈ l,x.key ≠ c.key):(withL l c).1 = 0 ∧ (withL l c).2.length = l.length + 1 ∧ risingC (withL l c).2 ∧ ∀ z,z ∈ (withL l c).2 ↔ z = c ∨ z ∈ l:=by
 obtain ⟨h1,h2⟩:=zqkn h;refine ⟨h1,?_,?_,h2⟩
 ·clear h1 h2
  induction l with
  | nil => rfl
  | cons x l ih =>
   have h1:=(zqkn fun y hy => h y (List.mem_cons_of_mem _ hy)).1
   have i1:=ih (zqbn hr) fun y hy => h y (List.mem_cons_of_mem _ hy)
   unfold withL
   by_cases e:x.key < c.key
   ·rw [if_pos e,if_pos h1,List.length_cons,i1,List.length_cons]
   ·rw [if_neg e,if_neg (h x (List.mem_cons_self ..))]; rfl
 ·clear h1 h2
  induction l with
  | nil => exact List.pairwise_singleton _ _
  | cons x l ih =>
   obtain ⟨h1,h2⟩:=zqkn fun y hy => h y (List.mem_cons_of_mem _ hy)
   have i1:=ih (zqbn hr) fun y hy => h y (List.mem_cons_of_mem _ hy)
   unfold withL
   by_cases e:x.key < c.key
   ·rw [if_pos e,if_pos h1];refine List.pairwise_cons.2 ⟨fun z hz => ?_,i1⟩
    rcases (h2 z).1 hz with rfl | hz
    ·exact e
    ·exact zqaz hr z hz
   ·have hx:=h x (List.mem_cons_self ..);rw [if_neg e,if_neg hx];refine List.pairwise_cons.2 ⟨fun z hz => ?_,hr⟩
    rcases List.mem_cons.1 hz with rfl | hz
    ·show c.key < z.key
     omega
    ·have:=zqaz hr z hz;show c.key < z.key
     omega
theorem zqir:∀ {l:List Ce} {c x:Ce},risingC l → x ∈ l → x.key = c.key → (withL l c).1 = errJ x c ∧ (errJ x c = 0 → (withL l c).2.length = l.length ∧ risingC (withL l c).2 ∧ ∀ z,z ∈ (withL l c).2 ↔ z = joinC x c ∨ (z ∈ l ∧ z.key ≠ c.key))
 | [],_,_,_,h,_ => by cases h
 | y :: l,c,x,hr,h,e => by
  by_cases q:y.key < c.key
  ·have hx:x ∈ l:=by
    rcases List.mem_cons.1 h with rfl | h
    ·omega
    ·exact h
   obtain ⟨i1,i2⟩:=zqir (zqbn hr) hx e;unfold withL;rw [if_pos q]
   by_cases z0:errJ x c = 0
   ·obtain ⟨j1,j2,j3⟩:=i2 z0;rw [if_pos (i1.trans z0)];refine ⟨z0.symm,fun _ => ⟨by rw [List.length_cons,j1,List.length_cons],List.pairwise_cons.2 ⟨fun z hz => ?_,j2⟩,fun z => ?_⟩⟩
    ·rcases (j3 z).1 hz with rfl | ⟨hz,-⟩
     ·rw [zqdd z0,e]; exact q
     ·exact zqaz hr z hz
    ·rw [List.mem_cons,j3,List.mem_cons]
     constructor
     ·rintro (rfl | q2 | ⟨q2,q3⟩)
      ·exact .inr ⟨.inl rfl,by omega⟩
      ·exact .inl q2
      ·exact .inr ⟨.inr q2,q3⟩
     ·rintro (q2 | ⟨q2 | q2,q3⟩)
      ·exact .inr (.inl q2)
      ·exact .inl q2
      ·exact .inr (.inr ⟨q2,q3⟩)
   ·rw [if_neg (fun w => z0 (i1.symm.trans w))]
    exact ⟨i1,fun w => absurd w z0⟩
  ·have hy:y = x:=by
    rcases List.mem_cons.1 h with h | h
    ·exact h.symm
    ·have:=zqaz hr x h; omega
   subst hy;unfold withL;rw [if_neg q,if_pos e]
   by_cases z0:errJ y c = 0
   ·rw [if_pos z0];refine ⟨z0.symm,fun _ => ⟨rfl,List.pairwise_cons.2 ⟨fun z hz => ?_,zqbn hr⟩,fun z => ?_⟩⟩
    ·rw [zqdd z0]; exact zqaz hr z hz
    ·rw [List.mem_cons,List.mem_cons]
     constructor
     ·rintro (q2 | q2)
      ·exact .inl q2
      ·exact .inr ⟨.inr q2,by have:=zqaz hr z q2; omega⟩
     ·rintro (q2 | ⟨rfl | q2,q3⟩)
      ·exact .inl q2
      ·exact absurd e q3
      ·exact .inr q2
   ·rw [if_neg z0];exact ⟨rfl,fun w => absurd w z0⟩
abbrev rowV (q:Int × Int × Value × Value):Value:=.agg #[.int .u64 q.1,.int .i64 q.2.1,q.2.2.1,q.2.2.2]
open Classical in
noncomputable def heldE (v:Value):Option (DataW Value × List MemPlace):=if ∃ q,v = rowV q then some (.held v,[]) else none
theorem zqfs (q:Int × Int × Value × Value):heldE (rowV q) = some (.held (rowV q),[]):=if_pos ⟨q,rfl⟩
theorem zqen {v:Value} {y:DataW Value × List MemPlace} (h:heldE v = some y):∃ q,v = rowV q ∧ y = (.held (rowV q),[]):=by
 unfold heldE at h
 split at h
 ·next q =>
  obtain ⟨q,rfl⟩:=q;exact ⟨q,rfl,(Option.some.inj h).symm⟩
 ·cases h
abbrev MapV (w:World) (b n:Nat) (D:DataW Value):Prop:=w.ownsMap Tryz.prog 34 heldE b n D
theorem lawU15:Go.Maps.Keyed Tryz.prog 34:=int_keyed Tryz.underlying34
def keyV (k:Int):Lit:=.int .u64 k
theorem wf_u64 {a:Int}:(Lit.int .u64 a).wf = true ↔ 0 ≤ a ∧ a ≤ 18446744073709551615:=by
 simp [Lit.wf,IntKind.min,IntKind.max,IntKind.signed,IntKind.bits]
theorem key15 {k:Int} (h:0 ≤ k ∧ k ≤ 18446744073709551615):keyOf Tryz.prog 34 (.int .u64 k) = some (keyV k):=keyOf_int_mk Tryz.underlying34 (wf_u64.2 h)
theorem isKey15 (k:Int):WideAt.IsKeyLit (keyV k):=by simp [WideAt.IsKeyLit,keyV]
theorem zqpj {a b:Int} (h:a ≠ b):keyV a ≠ keyV b:=fun e => h (by unfold keyV at e; injection e)
theorem zqt4 {w:World} {b n:Nat} {D:DataW Value} (h:MapV w b n D):MapV w b (Maps.size D) D:=by
 obtain ⟨es,clock,hb,F,hs,rfl⟩:=h;exact ⟨es,clock,hb,F,by simp [Maps.size,length_sorted],rfl⟩
theorem zqcq {w w':World} (hb:Below w.heap.size w w'):w.grownBy w' none:=⟨hb.os,hb.tape,hb.output,hb.size,fun i hi _ => hb.block i hi⟩
theorem zqk7 {B b:Nat} {w w':World} {es:Array MapEntry} {clock:Nat} (hB:B ≤ w.heap.size) (hb:B ≤ b) (hm:w.heap[b]? = some (.map es clock)) (hg:w.grownBy w' (some b)):Keeps B w w' :=
 ⟨⟨hg.os,hg.tape,hg.output,hg.size,fun k hk => hg.block k (by omega) (fun e => by injection e with e; omega)⟩,fun k cs T h _ => (hg.block k (Array.getElem?_eq_some_iff.1 h).1 (fun e => by
  injection e with e;subst e;rw [hm] at h;cases h)).trans h⟩
structure CMap (B:Nat) (w:World) (b:Nat) (ms:List Ce):Prop where
 r:risingC ms
 lo:B ≤ b
 m:∃ D,MapV w b ms.length D ∧ Maps.size D = ms.length ∧ (∀ k,Maps.has D (keyV k) = (lookC ms k).isSome) ∧ ∀ c ∈ ms,∃ I N,(∀ z,D.atKey (keyV c.key) z = .held (CeV c I N)) ∧ CeS B w I N c
theorem CMap.lt {B:Nat} {w:World} {b:Nat} {ms:List Ce} (h:CMap B w b ms):b < w.heap.size:=by obtain ⟨D,h1,-⟩:=h.m; exact h1.lt
theorem CMap.below {B:Nat} {w w':World} {b:Nat} {ms:List Ce} (h:CMap B w b ms) (hB:B ≤ w.heap.size) (hb:Below w.heap.size w w'):CMap B w' b ms:=by
 obtain ⟨D,h1,h2,h3,h4⟩:=h.m;refine ⟨h.r,h.lo,D,h1.kept (zqcq hb) (by simp),h2,h3,fun c hc => ?_⟩
 obtain ⟨I,N,h5,h6⟩:=h4 c hc;exact ⟨I,N,h5,h6.keep (zqag hB hb)⟩
theorem CMap.made (B:Nat) (w:World) (hB:B ≤ w.heap.size):CMap B (w.alloc (.map #[] 0)) w.heap.size [] :=
 ⟨List.Pairwise.nil,hB,.map [],World.ownsMap_made _ _ _ _,rfl,fun k => rfl,fun c hc => by cases hc⟩
theorem CMap.put {B:Nat} {w w':World} {b n:Nat} {ms l:List Ce} {D:DataW Value} {c:Ce} {I N:Value} (h:CMap B w b ms) (hB:B ≤ w.heap.size)
  (hD:MapV w b ms.length D ∧ Maps.size D = ms.length ∧ (∀ k,Maps.has D (keyV k) = (lookC ms k).isSome) ∧ ∀ c ∈ ms,∃ I N,(∀ z,D.atKey (keyV c.key) z = .held (CeV c I N)) ∧ CeS B w I N c)
  (ho:MapV w' b n (D.put (keyV c.key) (.held (CeV c I N)))) (hg:w.grownBy w' (some b)) (hc:CeS B w I N c) (hr:risingC l) (hz:∀ z,z ∈ l ↔ z = c ∨ (z ∈ ms ∧ z.key ≠ c.key))
  (hl:l.length = if (lookC ms c.key).isSome = true then ms.length else ms.length + 1):CMap B w' b l:=by
 obtain ⟨h1,h2,h3,h4⟩:=hD;have hk:Keeps B w w':=by
  obtain ⟨es,clock,hm,-⟩:=h1;exact zqk7 hB h.lo hm hg
 have hs:Maps.size (D.put (keyV c.key) (.held (CeV c I N))) = l.length:=by
  rw [Maps.size_put (World.ownsMap.tidy h1 lawU15),h3,h2,hl]
 refine ⟨hr,h.lo,_,?_,hs,fun k => ?_,fun z hzl => ?_⟩
 ·have:=zqt4 ho
  rwa [hs] at this
 ·by_cases e:k = c.key
  ·subst e;rw [has_put_same (World.ownsMap.isMap h1) (isKey15 _)];exact (zqfx.2 ⟨c,(hz c).2 (.inl rfl),rfl⟩).symm
  ·rw [has_put_other (zqpj e),h3,Bool.eq_iff_iff,zqfx,zqfx]
   constructor
   ·rintro ⟨x,hx,rfl⟩;exact ⟨x,(hz x).2 (.inr ⟨hx,e⟩),rfl⟩
   ·rintro ⟨x,hx,rfl⟩;rcases (hz x).1 hx with rfl | ⟨q,-⟩
    ·exact absurd rfl e
    ·exact ⟨x,q,rfl⟩
 ·rcases (hz z).1 hzl with rfl | ⟨q,qk⟩
  ·exact ⟨I,N,fun z => atKey_put_same (World.ownsMap.isMap h1) (isKey15 _) _ _,hc.keep hk⟩
  ·obtain ⟨I',N',h5,h6⟩:=h4 z q;exact ⟨I',N',fun z => by rw [atKey_put_other (zqpj qk),h5],h6.keep hk⟩
theorem zeroC15 (w:World):(zeroValue 38).run Tryz.prog w = .ok (rowV (0,0,.slice none 0 0,.slice none 0 0)) w:=by kernel_rfl
theorem zqm6 {w:World} {b n:Nat} {D:DataW Value} {k:Int} (h:MapV w b n D) (hk:0 ≤ k ∧ k ≤ 18446744073709551615) :
  (Maps.has D (keyV k) = false → (Instr.lookup 81 (.map (some b)) (.int .u64 k) true).run Tryz.prog w = .ok (.tuple #[rowV (0,0,.slice none 0 0,.slice none 0 0),.bool false]) w) ∧
  ∀ q,(∀ z,D.atKey (keyV k) z = .held (rowV q)) → (Instr.lookup 81 (.map (some b)) (.int .u64 k) true).run Tryz.prog w = .ok (.tuple #[rowV q,.bool true]) w:=by
 obtain ⟨v,ps,h1,h2⟩:=h.look_ok lawU15 Tryz.underlying81 (zeroC15 w) (zqfs (0,0,.slice none 0 0,.slice none 0 0)) (key15 hk);obtain ⟨q0,rfl,e⟩:=zqen h2;have e1:D.atKey (keyV k) (.held (rowV (0,0,.slice none 0 0,.slice none 0 0))) = .held (rowV q0):=congrArg Prod.fst e;refine ⟨fun hh => ?_,fun q hq => ?_⟩
 ·rw [atKey_of_not_has hh] at e1;injection e1 with e1;rw [h1,hh,← e1]
 ·rw [hq] at e1;injection e1 with e1;rw [h1,has_true_of_atKey hq,← e1]
end Go.Proofs.YtmnbljijnbhghaaGreatDoor
