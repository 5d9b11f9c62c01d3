/- Contracts that the law leans on: Aggb. -/
import Derived.Deep.RegionHeld3
import Derived.BigQuiet
import Derived.Deep.QuietTactic
import Derived.Test.YtafmghloohhaeaaGreatDoorPt02
import Derived.Test.YtafmghloohhaeaaGreatDoorPt08
import Derived.Test.YtafmghloohhaeaaGreatDoorPt10
namespace Go.Proofs.YtafmghloohhaeaaGreatDoor
set_option maxRecDepth 100000
open Go.RowKit
set_option linter.unusedVariables false
def sameWh (x y:Wh):Bool:=x.sum == y.sum && x.abs == y.abs && x.mn == y.mn && x.mx == y.mx && decide (x.sq = y.sq)
def sameRe (x y:Re):Bool:=decide (x.sum = y.sum) && sameB x.mn y.mn && sameB x.mx y.mx
def sameC (a b:Ce):Bool:=a.key == b.key && a.cnt == b.cnt && decide (a.is.length = b.is.length) && decide (a.ns.length = b.ns.length) && ((List.range a.is.length).all fun k => sameWh (wg a.is k) (wg b.is k)) && (List.range a.ns.length).all fun k => sameRe (rg a.ns k) (rg b.ns k)
structure SameP (a b:Ce):Prop where
 key:a.key = b.key
 cnt:a.cnt = b.cnt
 li:a.is.length = b.is.length
 ln:a.ns.length = b.ns.length
 is:∀ k,k < a.is.length → sameWh (wg a.is k) (wg b.is k) = true
 ns:∀ k,k < a.ns.length → sameRe (rg a.ns k) (rg b.ns k) = true
theorem same_iff {a b:Ce}:sameC a b = true ↔ SameP a b:=by
 constructor
 ·intro h;simp only [sameC,Bool.and_eq_true,beq_iff_eq,decide_eq_true_eq,List.all_eq_true,List.mem_range] at h;obtain ⟨⟨⟨⟨⟨h1,h2⟩,h3⟩,h4⟩,h5⟩,h6⟩:=h;exact ⟨h1,h2,h3,h4,h5,h6⟩
 ·rintro ⟨h1,h2,h3,h4,h5,h6⟩;simp only [sameC,Bool.and_eq_true,beq_iff_eq,decide_eq_true_eq,List.all_eq_true,List.mem_range];exact ⟨⟨⟨⟨⟨h1,h2⟩,h3⟩,h4⟩,h5⟩,h6⟩
theorem zqu5 {a b:Ce} (h:¬ SameP a b):sameC a b = false:=by
 cases e:sameC a b with
 | false => rfl
 | true => exact absurd (same_iff.1 e) h
set_option maxHeartbeats 2000000 in
theorem zqjf (u v:Value) (a b:List Int) (w:World) (hu:Ints .u32 w u a) (hv:Ints .u32 w v b) (ha:a.length ≤ 9223372036854775807) :
  Calls Tryz.prog 15 #[u,v] w fun e w' => e = .returned (.bool (decide (a = b))) ∧ Drawn w w':=by
 have HU:=zh hu;have HV:=zh hv;obtain ⟨p,c,rfl,-,-⟩:=hu;obtain ⟨q,d,rfl,-,-⟩:=hv
 by_cases hl:a.length = b.length
 ·have HR:=zh (show (∀ k,k < a.length → a.getD k 0 = b.getD k 0) → decide (a = b) = true from fun h => decide_eq_true (List.ext_getElem hl fun j j1 j2 => by
   have:=h j j1;simpa [List.getD,List.getElem?_eq_getElem j1,List.getElem?_eq_getElem j2] using this))
  have HN:=zh (show ∀ k,a.getD k 0 ≠ b.getD k 0 → decide (a = b) = false from fun k h => decide_eq_false fun e => h (by rw [e]))
  rw [← hl] at HV ⊢;have HL:=zh hl;clear hl;generalize decide (a = b) = R at *;go_enter Tryz.func15,Tryz.ntmps15;go_wp2_with fail;go_loopw [5] (fun i wr => ∃ k:Nat,k ≤ a.length ∧ i = .int .i64 k ∧ Hid (Drawn w wr) ∧ Hid (∀ j,j < k → a.getD j 0 = b.getD j 0)) (fun i _ => a.length - (intOf i).toNat)
  case atStart => exact ⟨0,Nat.zero_le _,rfl,zh (Drawn.refl w),zh (fun j hj => by omega)⟩
  case round =>
   obtain ⟨k,hk,rfl,HD,HJ⟩:=hrel
   by_cases hlk:k < a.length
   ·have hlk':(k:Int) < (a.length:Int):=by omega
    obtain ⟨b1,o1,rfl,-,g1⟩:=(HU.out.below HD.out.below).cell (i:=k) hlk;obtain ⟨b2,o2,rfl,-,g2⟩:=(HV.out.below HD.out.below).cell (i:=k) (by have:=HL.out; omega)
    have hle:Hid (k + 1 ≤ a.length):=zh (by omega)
    have HNx:=zh (fun (q:a.getD k 0 = b.getD k 0) => fun j (hj:j < k + 1) => show a.getD j 0 = b.getD j 0 from if e:j = k then e ▸ q else HJ.out j (by omega))
    have HNk:=zh (HN.out k);have HDn:=zh (fun n => HD.out.next n)
    generalize a.getD k 0 = x at *;generalize b.getD k 0 = y at *
    by_cases hq:x = y
    ·subst hq;have HJ2:=zh (HNx.out rfl);have hnn:(x != x) = false:=by simp
     clear HNx HNk;go_upto_region 6 with fail;go_quiet (fail);have HD2:=zh (HDn.out nq);go_wp2;go_roundw
     case rel => exact ⟨k + 1,hle.out,by go_num,HD2,HJ2⟩
     case measure => simp [intOf]; omega
    ·have hR:=HNk.out hq;subst hR;have hnn:(x != y) = true:=by simpa using hq
     clear HNx HNk hq;go_upto_region 6 with fail;go_quiet (fail);have HD2:=zh (HDn.out nq);go_wp2;go_ret;exact ⟨rfl,HD2.out⟩
   ·have:k = a.length:=by omega
    subst this;have hR:=HR.out HJ.out;subst hR;go_wp2_with fail;go_ret;exact ⟨rfl,HD.out⟩
 ·have hR:decide (a = b) = false:=decide_eq_false fun e => hl (by rw [e])
  rw [hR];have hnn:((a.length:Int) != (b.length:Int)) = true:=by simp; omega
  clear HU HV hR;go_enter Tryz.func15,Tryz.ntmps15;go_wp2_with fail;go_ret;exact ⟨rfl,Drawn.refl w⟩
theorem zqlg (l:List Int):(strB l).toList = l.map fun x => UInt8.ofNat x.toNat:=by rw [ByteArray.toList_eq]; simp [strB]
theorem zq0v {x:Int} (h0:0 ≤ x) (h1:x ≤ 255):((UInt8.ofNat x.toNat).toNat:Int) = x:=by
 rw [UInt8.toNat_ofNat'];omega
theorem zqyw {a b:List Int} (ha:Bt a) (hb:Bt b) (h:a.map (fun x => UInt8.ofNat x.toNat) = b.map (fun x => UInt8.ofNat x.toNat)):a = b:=by
 have h3:(a.map (fun x => UInt8.ofNat x.toNat)).map (fun c => (c.toNat:Int)) = (b.map (fun x => UInt8.ofNat x.toNat)).map (fun c => (c.toNat:Int)):=by rw [h]
 have back:∀ l:List Int,Bt l → (l.map (fun x => UInt8.ofNat x.toNat)).map (fun c => (c.toNat:Int)) = l:=fun l hl => by
  rw [List.map_map]
  conv => rhs; rw [← List.map_id l]
  exact List.map_congr_left fun x hx => zq0v (hl x hx).1 (hl x hx).2
 rwa [back a ha,back b hb] at h3
theorem zqna {a b:List Int} (ha:Bt a) (hb:Bt b):((strB a).toList == (strB b).toList) = decide (a = b):=by
 rw [zqlg,zqlg]
 by_cases h:a = b
 ·subst h; simp
 ·rw [decide_eq_false h];exact beq_eq_false_iff_ne.2 fun e => h (zqyw ha hb e)
theorem zqyv {a b:List Int} (ha:Bt a) (hb:Bt b):((strB a).toList != (strB b).toList) = !decide (a = b):=by
 rw [bne,zqna ha hb]
theorem hold12 {w w':World} (hb:Below w.heap.size w w') {p0 p1 p2 p3 p4 p5 p6 p7 p8 p9 p10 p11:Addr} {v0 v1 v2 v3 v4 v5 v6 v7 v8 v9 v10 v11:Value}
  (h:w.cell? p0 = some v0 ∧ w.cell? p1 = some v1 ∧ w.cell? p2 = some v2 ∧ w.cell? p3 = some v3 ∧ w.cell? p4 = some v4 ∧ w.cell? p5 = some v5 ∧ w.cell? p6 = some v6 ∧ w.cell? p7 = some v7 ∧ w.cell? p8 = some v8 ∧ w.cell? p9 = some v9 ∧ w.cell? p10 = some v10 ∧ w.cell? p11 = some v11) :
  w'.cell? p0 = some v0 ∧ w'.cell? p1 = some v1 ∧ w'.cell? p2 = some v2 ∧ w'.cell? p3 = some v3 ∧ w'.cell? p4 = some v4 ∧ w'.cell? p5 = some v5 ∧ w'.cell? p6 = some v6 ∧ w'.cell? p7 = some v7 ∧ w'.cell? p8 = some v8 ∧ w'.cell? p9 = some v9 ∧ w'.cell? p10 = some v10 ∧ w'.cell? p11 = some v11:=by
 obtain ⟨h0,h1,h2,h3,h4,h5,h6,h7,h8,h9,h10,h11⟩:=h;exact ⟨cell_later hb h0,cell_later hb h1,cell_later hb h2,cell_later hb h3,cell_later hb h4,cell_later hb h5,cell_later hb h6,cell_later hb h7,cell_later hb h8,cell_later hb h9,cell_later hb h10,cell_later hb h11⟩
theorem hold8 {w w':World} (hb:Below w.heap.size w w') {p0 p1 p2 p3 p4 p5 p6 p7:Addr} {v0 v1 v2 v3 v4 v5 v6 v7:Value}
  (h:w.cell? p0 = some v0 ∧ w.cell? p1 = some v1 ∧ w.cell? p2 = some v2 ∧ w.cell? p3 = some v3 ∧ w.cell? p4 = some v4 ∧ w.cell? p5 = some v5 ∧ w.cell? p6 = some v6 ∧ w.cell? p7 = some v7) :
  w'.cell? p0 = some v0 ∧ w'.cell? p1 = some v1 ∧ w'.cell? p2 = some v2 ∧ w'.cell? p3 = some v3 ∧ w'.cell? p4 = some v4 ∧ w'.cell? p5 = some v5 ∧ w'.cell? p6 = some v6 ∧ w'.cell? p7 = some v7:=by
 obtain ⟨h0,h1,h2,h3,h4,h5,h6,h7⟩:=h;exact ⟨cell_later hb h0,cell_later hb h1,cell_later hb h2,cell_later hb h3,cell_later hb h4,cell_later hb h5,cell_later hb h6,cell_later hb h7⟩
theorem zqba {P:Program} {w:World} {a:Addr} {m:Mode} (k:Nat):(store a (.float .f64 k) m).run P w = stored P w a (.float .f64 k) m:=run_store P w a _ m rfl
def TwoAt (T:TypeId) (w:World) (P Q:Nat) (x y:Array Value) (wx:World):Prop:=wx.heap[P]? = some (.cells x T (0,0)) ∧ wx.heap[Q]? = some (.cells y T (0,0)) ∧ Below w.heap.size w wx ∧ w.heap.size ≤ P ∧ w.heap.size ≤ Q
theorem zqik {T:TypeId} {w:World} {x y:Array Value}:TwoAt T w w.heap.size (w.heap.size + 1) x y ((w.alloc (.cells x T)).alloc (.cells y T)).drew:=by
 have h1:(w.alloc (.cells x T)).heap[w.heap.size]? = some (.cells x T (0,0)):=heap_alloc_new w _;have h2:((w.alloc (.cells x T)).alloc (.cells y T)).heap[(w.alloc (.cells x T)).heap.size]? = some (.cells y T (0,0)):=heap_alloc_new _ _;rw [World.size_alloc] at h2;refine ⟨?_,h2,(zqaa (zqab w _) (zqab _ _)).drew,Nat.le_refl _,Nat.le_succ _⟩;have hb:=(zqab (w.alloc (.cells x T)) (.cells y T)).block w.heap.size (by simp)
 exact hb.trans h1
theorem zqjp {T:TypeId} {w:World} {x y:Array Value}:TwoAt T w (w.heap.size + 1) w.heap.size x y ((w.alloc (.cells y T)).alloc (.cells x T)).drew:=by
 obtain ⟨h1,h2,h3,h4,h5⟩:=zqik (T:=T) (w:=w) (x:=y) (y:=x);exact ⟨h2,h1,h3,h5,h4⟩
theorem row5 {w:World} {P:Nat} {T:TypeId} {a b c d e:Value} (h:w.heap[P]? = some (.cells #[a,b,c,d,e] T (0,0))):w.cell? ⟨P,0,none⟩ = some a ∧ w.cell? ⟨P,1,none⟩ = some b ∧ w.cell? ⟨P,2,none⟩ = some c ∧ w.cell? ⟨P,3,none⟩ = some d ∧ w.cell? ⟨P,4,none⟩ = some e:=by
 refine ⟨by simp [World.cell?,h],by simp [World.cell?,h],by simp [World.cell?,h],by simp [World.cell?,h],by simp [World.cell?,h]⟩
theorem row3 {w:World} {P:Nat} {T:TypeId} {a b c:Value} (h:w.heap[P]? = some (.cells #[a,b,c] T (0,0))):w.cell? ⟨P,0,none⟩ = some a ∧ w.cell? ⟨P,1,none⟩ = some b ∧ w.cell? ⟨P,2,none⟩ = some c:=by
 refine ⟨by simp [World.cell?,h],by simp [World.cell?,h],by simp [World.cell?,h]⟩
set_option maxHeartbeats 8000000 in
theorem zqn9 (w:World) (a b:Ce) (I N I' N':Value) (h:CeM w I N a) (h':CeM w I' N' b) (ha:CeW a) (hb:CeW b) :
  Calls Tryz.prog 11 #[CeV a I N,CeV b I' N'] w fun e w' => e = .returned (.bool (sameC a b)) ∧ Below w.heap.size w w':=by
 have hb1:=zqab w (CeO a I N);have hb2:=zqab (w.alloc (CeO a I N)) (CeO b I' N');have HB0:=zh (zqaa hb1 hb2);have HX:=zh ((zqcp w a I N).below hb2);have hx2:=zqcp (w.alloc (CeO a I N)) b I' N';rw [show (w.alloc (CeO a I N)).heap.size = w.heap.size + 1 by simp] at hx2
 have HX2:=zh hx2;have HI:=zh (h.i.below HB0.out);have HN:=zh (h.n.below HB0.out);have HI':=zh (h'.i.below HB0.out);have HN':=zh (h'.n.below HB0.out);have HWa:=zh ha;have HWb:=zh hb;obtain ⟨⟨p,k1,rfl⟩,p2,k2,rfl⟩:=h.slices;obtain ⟨⟨p',k1',rfl⟩,p2',k2',rfl⟩:=h'.slices;have HY:=zh (@same_iff a b);have HF:=zh (@zqu5 a b);clear h h' ha hb hb1 hb2 hx2;generalize sameC a b = R at *;go_enter Tryz.func11,Tryz.ntmps11;go_upto_region 1 with fail;generalize (w.alloc (CeO a (.slice p a.is.length k1) (.slice p2 a.ns.length k2))).alloc (CeO b (.slice p' b.is.length k1') (.slice p2' b.ns.length k2')) = W at *;obtain ⟨x0,x1,x2,x3⟩:=HX.out.reads;obtain ⟨z0,z1,z2,z3⟩:=HX2.out.reads;have hcases:(a.key != b.key) = true ∨ ((a.key != b.key) = false ∧ (a.cnt != b.cnt) = true) ∨ ((a.key != b.key) = false ∧ (a.cnt != b.cnt) = false ∧ ((a.is.length:Int) != (b.is.length:Int)) = true) ∨ ((a.key != b.key) = false ∧ (a.cnt != b.cnt) = false ∧ ((a.is.length:Int) != (b.is.length:Int)) = false ∧ ((a.ns.length:Int) != (b.ns.length:Int)) = true) ∨ ((a.key != b.key) = false ∧ (a.cnt != b.cnt) = false ∧ ((a.is.length:Int) != (b.is.length:Int)) = false ∧ ((a.ns.length:Int) != (b.ns.length:Int)) = false):=by
  cases (a.key != b.key) <;> cases (a.cnt != b.cnt) <;> cases ((a.is.length:Int) != (b.is.length:Int)) <;> cases ((a.ns.length:Int) != (b.ns.length:Int)) <;> simp
 rcases hcases with e1 | ⟨e1,e2⟩ | ⟨e1,e2,e3⟩ | ⟨e1,e2,e3,e4⟩ | ⟨e1,e2,e3,e4⟩
 ·have hR:=HF.out (fun q => by have:=q.key; simp at e1; exact e1 this)
  subst hR;go_wp2_with fail;go_ret;exact ⟨rfl,HB0.out⟩
 ·have hR:=HF.out (fun q => by have:=q.cnt; simp at e2; exact e2 this)
  subst hR;go_wp2_with fail;go_ret;exact ⟨rfl,HB0.out⟩
 ·have hR:=HF.out (fun q => by have:=q.li; simp at e3; omega)
  subst hR;go_wp2_with fail;go_ret;exact ⟨rfl,HB0.out⟩
 ·have hR:=HF.out (fun q => by have:=q.ln; simp at e4; omega)
  subst hR;go_wp2_with fail;go_ret;exact ⟨rfl,HB0.out⟩
 ·have hmi:a.is.length ≤ 9223372036854775807:=by obtain ⟨_,_,_,_,h,_⟩:=HI.out; exact h
  have hmn:a.ns.length ≤ 9223372036854775807:=by obtain ⟨_,_,_,_,h,_⟩:=HN.out; exact h
  have HL:=zh (show a.key = b.key ∧ a.cnt = b.cnt ∧ a.is.length = b.is.length ∧ a.ns.length = b.ns.length by simp at e1 e2 e3 e4; exact ⟨e1,e2,by omega,by omega⟩)
  go_wp2_with fail;clear e1 e2 e3 e4 x0 x1 x2 x3 z0 z1 z2 z3;go_loopw [5] (fun i wr => ∃ k:Nat,k ≤ a.is.length ∧ i = .int .i64 k ∧ Hid (Below W.heap.size W wr) ∧ Hid (∀ j,j < k → sameWh (wg a.is j) (wg b.is j) = true)) (fun i _ => a.is.length - (intOf i).toNat)
  case atStart => exact ⟨0,Nat.zero_le _,rfl,zh (Below.refl _ _),zh (fun j hj => by omega)⟩
  case round =>
   obtain ⟨k,hk,rfl,HB,HJ⟩:=hrel
   by_cases hlk:k < a.is.length
   ·have hlk':(k:Int) < (a.is.length:Int):=by omega
    obtain ⟨ba,oa,qa,rfl,hqa⟩:=(HI.out.below HB.out).at hlk;obtain ⟨bb,ob,qb,rfl,hqb⟩:=(HI'.out.below HB.out).at (i:=k) (by have:=HL.out; omega)
    obtain ⟨-,-,x2,-⟩:=(HX.out.below HB.out).reads;obtain ⟨-,-,z2,-⟩:=(HX2.out.below HB.out).reads;have hle:Hid (k + 1 ≤ a.is.length):=zh (by omega)
    have hkb:(k:Int) < (b.is.length:Int):=by have:=HL.out; omega
    obtain ⟨f0,f1,f2,f3,f4,f5⟩:=hqa;obtain ⟨g0,g1,g2,g3,g4,g5⟩:=hqb;have HN0:=zh (fun (q:sameWh (wg a.is k) (wg b.is k) = false) => HF.out (fun z => by have:=z.is k hlk; rw [q] at this; cases this))
    have HJn:=zh (fun (q:sameWh (wg a.is k) (wg b.is k) = true) => fun j (hj:j < k + 1) => (if e:j = k then e ▸ q else HJ.out j (by omega):sameWh (wg a.is j) (wg b.is j) = true))
    have hla:(wg a.is k).sq.length ≤ 9223372036854775807:=(HWa.out.wg hlk).len;have hsx:Hid (sameWh (wg a.is k) (wg b.is k) = ((wg a.is k).sum == (wg b.is k).sum && (wg a.is k).abs == (wg b.is k).abs && (wg a.is k).mn == (wg b.is k).mn && (wg a.is k).mx == (wg b.is k).mx && decide ((wg a.is k).sq = (wg b.is k).sq))):=zh rfl;generalize (wg a.is k).sum = x0 at *;generalize (wg a.is k).abs = x1 at *;generalize (wg a.is k).mn = x3 at *;generalize (wg a.is k).mx = x4 at *;generalize (wg b.is k).sum = y0 at *;generalize (wg b.is k).abs = y1 at *;generalize (wg b.is k).mn = y3 at *;generalize (wg b.is k).mx = y4 at *;generalize (wg a.is k).sq = la at *;generalize (wg b.is k).sq = lb at *;have HF5:=zh (And.intro f5 g5);obtain ⟨pqa,cqa,rfl,-,-⟩:=f5;obtain ⟨pqb,cqb,rfl,-,-⟩:=g5;go_upto_region 6 with fail;go_cut [6,7] from 41 to 91 (fun v6 v7 wx => ∃ P Q:Nat,v6 = .pointer (some ⟨P,0,none⟩) ∧ v7 = .pointer (some ⟨Q,0,none⟩) ∧ Hid (TwoAt 45 wr P Q #[.int .i64 x0,.int .i64 x1,.slice pqa la.length cqa,.int .i64 x3,.int .i64 x4] #[.int .i64 y0,.int .i64 y1,.slice pqb lb.length cqb,.int .i64 y3,.int .i64 y4] wx))
    case first =>
     have hk0:wr.cell? ⟨w.heap.size,2,none⟩ = some (.slice (some ⟨ba,oa,none⟩) a.is.length k1) ∧ wr.cell? ⟨w.heap.size + 1,2,none⟩ = some (.slice (some ⟨bb,ob,none⟩) b.is.length k1') ∧ wr.cell? ⟨ba,oa + k * 5,none⟩ = some (.int .i64 x0) ∧ wr.cell? ⟨ba,oa + k * 5 + 1,none⟩ = some (.int .i64 x1) ∧ wr.cell? ⟨ba,oa + k * 5 + 2,none⟩ = some (.slice pqa la.length cqa) ∧ wr.cell? ⟨ba,oa + k * 5 + 3,none⟩ = some (.int .i64 x3) ∧ wr.cell? ⟨ba,oa + k * 5 + 4,none⟩ = some (.int .i64 x4) ∧ wr.cell? ⟨bb,ob + k * 5,none⟩ = some (.int .i64 y0) ∧ wr.cell? ⟨bb,ob + k * 5 + 1,none⟩ = some (.int .i64 y1) ∧ wr.cell? ⟨bb,ob + k * 5 + 2,none⟩ = some (.slice pqb lb.length cqb) ∧ wr.cell? ⟨bb,ob + k * 5 + 3,none⟩ = some (.int .i64 y3) ∧ wr.cell? ⟨bb,ob + k * 5 + 4,none⟩ = some (.int .i64 y4):=⟨x2,z2,f0,f1,f2,f3,f4,g0,g1,g2,g3,g4⟩;have hk:wr.drew.cell? ⟨w.heap.size,2,none⟩ = some (.slice (some ⟨ba,oa,none⟩) a.is.length k1) ∧ wr.drew.cell? ⟨w.heap.size + 1,2,none⟩ = some (.slice (some ⟨bb,ob,none⟩) b.is.length k1') ∧ wr.drew.cell? ⟨ba,oa + k * 5,none⟩ = some (.int .i64 x0) ∧ wr.drew.cell? ⟨ba,oa + k * 5 + 1,none⟩ = some (.int .i64 x1) ∧ wr.drew.cell? ⟨ba,oa + k * 5 + 2,none⟩ = some (.slice pqa la.length cqa) ∧ wr.drew.cell? ⟨ba,oa + k * 5 + 3,none⟩ = some (.int .i64 x3) ∧ wr.drew.cell? ⟨ba,oa + k * 5 + 4,none⟩ = some (.int .i64 x4) ∧ wr.drew.cell? ⟨bb,ob + k * 5,none⟩ = some (.int .i64 y0) ∧ wr.drew.cell? ⟨bb,ob + k * 5 + 1,none⟩ = some (.int .i64 y1) ∧ wr.drew.cell? ⟨bb,ob + k * 5 + 2,none⟩ = some (.slice pqb lb.length cqb) ∧ wr.drew.cell? ⟨bb,ob + k * 5 + 3,none⟩ = some (.int .i64 y3) ∧ wr.drew.cell? ⟨bb,ob + k * 5 + 4,none⟩ = some (.int .i64 y4):=hk0;have hlo:ba < wr.heap.size ∧ bb < wr.heap.size ∧ w.heap.size + 1 < wr.heap.size:=⟨World.block_lt_of_cell? _ _ f0,World.block_lt_of_cell? _ _ g0,World.block_lt_of_cell? _ _ z2⟩;clear x2 z2 f0 f1 f2 f3 f4 g0 g1 g2 g3 g4;go_region_held3 (fun w' => w'.cell? ⟨w.heap.size,2,none⟩ = some (.slice (some ⟨ba,oa,none⟩) a.is.length k1) ∧ w'.cell? ⟨w.heap.size + 1,2,none⟩ = some (.slice (some ⟨bb,ob,none⟩) b.is.length k1') ∧ w'.cell? ⟨ba,oa + k * 5,none⟩ = some (.int .i64 x0) ∧ w'.cell? ⟨ba,oa + k * 5 + 1,none⟩ = some (.int .i64 x1) ∧ w'.cell? ⟨ba,oa + k * 5 + 2,none⟩ = some (.slice pqa la.length cqa) ∧ w'.cell? ⟨ba,oa + k * 5 + 3,none⟩ = some (.int .i64 x3) ∧ w'.cell? ⟨ba,oa + k * 5 + 4,none⟩ = some (.int .i64 x4) ∧ w'.cell? ⟨bb,ob + k * 5,none⟩ = some (.int .i64 y0) ∧ w'.cell? ⟨bb,ob + k * 5 + 1,none⟩ = some (.int .i64 y1) ∧ w'.cell? ⟨bb,ob + k * 5 + 2,none⟩ = some (.slice pqb lb.length cqb) ∧ w'.cell? ⟨bb,ob + k * 5 + 3,none⟩ = some (.int .i64 y3) ∧ w'.cell? ⟨bb,ob + k * 5 + 4,none⟩ = some (.int .i64 y4)) (first | (with_reducible exact hk) | exact hold12 (by repeat' first | exact Below.refl _ _ | refine Below.drew ?_ | refine Below.alloc ?_ (by first | exact Nat.le_refl _ | (simp; done) | (simp; omega)) _ | refine Below.setCell ?_ (by first | exact Nat.le_refl _ | (simp; done) | (simp; omega)) _) hk0) (fail)
     ·go_wp2_with fail;go_meet;exact ⟨_,_,rfl,rfl,zh zqik⟩
     ·go_wp2_with fail;go_meet;exact ⟨_,_,rfl,rfl,zh zqjp⟩
    case rest =>
     obtain ⟨P,Q,rfl,rfl,hT⟩:=hcut;obtain ⟨f0,f1,f2,f3,f4⟩:=row5 hT.out.1;obtain ⟨g0,g1,g2,g3,g4⟩:=row5 hT.out.2.1;have HBc:=zh (zqaa HB.out hT.out.2.2.1);have HS2:=zh (fun w1 (hb:Below wc.heap.size wc w1) => zqjf _ _ la lb w1 ((HF5.out.1.below hT.out.2.2.1).below hb) ((HF5.out.2.below hT.out.2.2.1).below hb) hla)
     have hex:(x0 != y0) = true ∨ ((x0 != y0) = false ∧ (x1 != y1) = true) ∨ ((x0 != y0) = false ∧ (x1 != y1) = false ∧ (x3 != y3) = true) ∨ ((x0 != y0) = false ∧ (x1 != y1) = false ∧ (x3 != y3) = false ∧ (x4 != y4) = true) ∨ ((x0 != y0) = false ∧ (x1 != y1) = false ∧ (x3 != y3) = false ∧ (x4 != y4) = false):=by
      cases (x0 != y0) <;> cases (x1 != y1) <;> cases (x3 != y3) <;> cases (x4 != y4) <;> simp
     clear hT;rcases hex with e1 | ⟨e1,e2⟩ | ⟨e1,e2,e3⟩ | ⟨e1,e2,e3,e4⟩ | ⟨e1,e2,e3,e4⟩
     ·have hR:=HN0.out (by rw [hsx.out]; simp at e1; simp [e1])
      subst hR;go_wp2_with fail;go_ret;exact ⟨rfl,zqaa HB0.out HBc.out⟩
     ·have hR:=HN0.out (by rw [hsx.out]; simp at e2; simp [e2])
      subst hR;go_wp2_with fail;go_ret;exact ⟨rfl,zqaa HB0.out HBc.out⟩
     ·have hR:=HN0.out (by rw [hsx.out]; simp at e3; simp [e3])
      subst hR;go_wp2_with fail;go_ret;exact ⟨rfl,zqaa HB0.out HBc.out⟩
     ·have hR:=HN0.out (by rw [hsx.out]; simp at e4; simp [e4])
      subst hR;go_wp2_with fail;go_ret;exact ⟨rfl,zqaa HB0.out HBc.out⟩
     ·have hsy:sameWh (wg a.is k) (wg b.is k) = decide (la = lb):=by rw [hsx.out]; simp at e1 e2 e3 e4; simp [e1,e2,e3,e4]
      have HN1:=zh (fun (q:decide (la = lb) = false) => HN0.out (hsy.trans q))
      have HJ1:=zh (fun (q:decide (la = lb) = true) => HJn.out (hsy.trans q))
      clear hsx hsy HN0 HJn;generalize decide (la = lb) = dl at *;go_wp2_with fail;refine (HS2.out _ (Below.refl _ _)).mono ?_; rintro e w5 ⟨rfl,hd⟩;have HB5:=zh (zqaa HBc.out hd.below);clear hd;cases dl with
      | false =>
       have hR:=HN1.out rfl;subst hR;go_wp2_with fail;go_ret;exact ⟨rfl,zqaa HB0.out HB5.out⟩
      | true =>
       have HJ2:=zh (HJ1.out rfl);go_wp2_with fail;go_roundw
       case rel => exact ⟨k + 1,hle.out,by go_num,HB5,HJ2⟩
       case measure => simp [intOf]; omega
   ·have:k = a.is.length:=by omega
    subst this;have HJi:=zh HJ.out;obtain ⟨-,-,x2,x3⟩:=(HX.out.below HB.out).reads;obtain ⟨-,-,z2,z3⟩:=(HX2.out.below HB.out).reads;go_wp2_with fail;clear x2 x3 z2 z3;generalize wr = wz at *;go_loopw [8] (fun i wr => ∃ k:Nat,k ≤ a.ns.length ∧ i = .int .i64 k ∧ Hid (Below W.heap.size W wr) ∧ Hid (∀ j,j < k → sameRe (rg a.ns j) (rg b.ns j) = true)) (fun i _ => a.ns.length - (intOf i).toNat)
    case atStart => exact ⟨0,Nat.zero_le _,rfl,HB,zh (fun j hj => by omega)⟩
    case round =>
     clear HB HJ;obtain ⟨k,hk,rfl,HB,HJ⟩:=hrel;obtain ⟨-,-,-,x3⟩:=(HX.out.below HB.out).reads;obtain ⟨-,-,-,z3⟩:=(HX2.out.below HB.out).reads
     by_cases hlk:k < a.ns.length
     ·have hlk':(k:Int) < (a.ns.length:Int):=by omega
      obtain ⟨ba,oa,qa,rfl,hqa⟩:=(HN.out.below HB.out).at hlk;obtain ⟨bb,ob,qb,rfl,hqb⟩:=(HN'.out.below HB.out).at (i:=k) (by have:=HL.out; omega)
      have hle:Hid (k + 1 ≤ a.ns.length):=zh (by omega)
      have hkb:(k:Int) < (b.ns.length:Int):=by have:=HL.out; omega
      obtain ⟨f0,f1,f2,f5⟩:=hqa;obtain ⟨g0,g1,g2,g5⟩:=hqb;have HN0:=zh (fun (q:sameRe (rg a.ns k) (rg b.ns k) = false) => HF.out (fun z => by have:=z.ns k hlk; rw [q] at this; cases this))
      have HJn:=zh (fun (q:sameRe (rg a.ns k) (rg b.ns k) = true) => fun j (hj:j < k + 1) => (if e:j = k then e ▸ q else HJ.out j (by omega):sameRe (rg a.ns j) (rg b.ns j) = true))
      obtain ⟨hwa,-,wa1,wa2⟩:=HWa.out.rg hlk;obtain ⟨hwb,-,wb1,wb2⟩:=HWb.out.rg (i:=k) (by have:=HL.out; omega)
      have hsx:Hid (sameRe (rg a.ns k) (rg b.ns k) = (decide ((rg a.ns k).sum = (rg b.ns k).sum) && sameB (rg a.ns k).mn (rg b.ns k).mn && sameB (rg a.ns k).mx (rg b.ns k).mx)):=zh rfl;have hst:=zqyv hwa hwb;have hst2:=zqna hwa hwb;generalize (rg a.ns k).mn = x1 at *;generalize (rg a.ns k).mx = x2 at *;generalize (rg b.ns k).mn = y1 at *;generalize (rg b.ns k).mx = y2 at *;generalize (rg a.ns k).sum = la at *;generalize (rg b.ns k).sum = lb at *;have HF5:=zh (And.intro f5 g5);have HC1:=zh (fun w1 (hb:Below wr.heap.size wr w1) => zqdp (f5.below hb) hwa)
      have HC2:=zh (fun w1 (hb:Below wr.heap.size wr w1) => zqdp (g5.below hb) hwb)
      have HS1:=zh (fun w1 => zqld x1 y1 w1 wa1 wb1)
      have HS2:=zh (fun w1 => zqld x2 y2 w1 wa2 wb2)
      obtain ⟨pqa,cqa,rfl,-,-⟩:=f5;obtain ⟨pqb,cqb,rfl,-,-⟩:=g5;have HST:=zh (And.intro hst hst2);clear hst hst2 hwa hwb wa1 wa2 wb1 wb2;go_upto_region 12 with fail;go_cut [9,10] from 92 to 131 (fun v9 v10 wx => ∃ P Q:Nat,v9 = .pointer (some ⟨P,0,none⟩) ∧ v10 = .pointer (some ⟨Q,0,none⟩) ∧ Hid (TwoAt 48 wr P Q #[.slice pqa la.length cqa,.float .f64 x1,.float .f64 x2] #[.slice pqb lb.length cqb,.float .f64 y1,.float .f64 y2] wx))
      case first =>
       have hk0:wr.cell? ⟨w.heap.size,3,none⟩ = some (.slice (some ⟨ba,oa,none⟩) a.ns.length k2) ∧ wr.cell? ⟨w.heap.size + 1,3,none⟩ = some (.slice (some ⟨bb,ob,none⟩) b.ns.length k2') ∧ wr.cell? ⟨ba,oa + k * 3,none⟩ = some (.slice pqa la.length cqa) ∧ wr.cell? ⟨ba,oa + k * 3 + 1,none⟩ = some (.float .f64 x1) ∧ wr.cell? ⟨ba,oa + k * 3 + 2,none⟩ = some (.float .f64 x2) ∧ wr.cell? ⟨bb,ob + k * 3,none⟩ = some (.slice pqb lb.length cqb) ∧ wr.cell? ⟨bb,ob + k * 3 + 1,none⟩ = some (.float .f64 y1) ∧ wr.cell? ⟨bb,ob + k * 3 + 2,none⟩ = some (.float .f64 y2):=⟨x3,z3,f0,f1,f2,g0,g1,g2⟩;have hk:wr.drew.cell? ⟨w.heap.size,3,none⟩ = some (.slice (some ⟨ba,oa,none⟩) a.ns.length k2) ∧ wr.drew.cell? ⟨w.heap.size + 1,3,none⟩ = some (.slice (some ⟨bb,ob,none⟩) b.ns.length k2') ∧ wr.drew.cell? ⟨ba,oa + k * 3,none⟩ = some (.slice pqa la.length cqa) ∧ wr.drew.cell? ⟨ba,oa + k * 3 + 1,none⟩ = some (.float .f64 x1) ∧ wr.drew.cell? ⟨ba,oa + k * 3 + 2,none⟩ = some (.float .f64 x2) ∧ wr.drew.cell? ⟨bb,ob + k * 3,none⟩ = some (.slice pqb lb.length cqb) ∧ wr.drew.cell? ⟨bb,ob + k * 3 + 1,none⟩ = some (.float .f64 y1) ∧ wr.drew.cell? ⟨bb,ob + k * 3 + 2,none⟩ = some (.float .f64 y2):=hk0;have hlo:ba < wr.heap.size ∧ bb < wr.heap.size ∧ w.heap.size + 1 < wr.heap.size:=⟨World.block_lt_of_cell? _ _ f0,World.block_lt_of_cell? _ _ g0,World.block_lt_of_cell? _ _ z3⟩;clear x3 z3 f0 f1 f2 g0 g1 g2;have hsf:=fun (w:World) (a:Addr) (m:Mode) (k:Nat) => zqba (P:=Tryz.prog) (w:=w) (a:=a) (m:=m) k
       go_region_held3 (fun w' => w'.cell? ⟨w.heap.size,3,none⟩ = some (.slice (some ⟨ba,oa,none⟩) a.ns.length k2) ∧ w'.cell? ⟨w.heap.size + 1,3,none⟩ = some (.slice (some ⟨bb,ob,none⟩) b.ns.length k2') ∧ w'.cell? ⟨ba,oa + k * 3,none⟩ = some (.slice pqa la.length cqa) ∧ w'.cell? ⟨ba,oa + k * 3 + 1,none⟩ = some (.float .f64 x1) ∧ w'.cell? ⟨ba,oa + k * 3 + 2,none⟩ = some (.float .f64 x2) ∧ w'.cell? ⟨bb,ob + k * 3,none⟩ = some (.slice pqb lb.length cqb) ∧ w'.cell? ⟨bb,ob + k * 3 + 1,none⟩ = some (.float .f64 y1) ∧ w'.cell? ⟨bb,ob + k * 3 + 2,none⟩ = some (.float .f64 y2)) (first | (with_reducible exact hk) | exact hold8 (by repeat' first | exact Below.refl _ _ | refine Below.drew ?_ | refine Below.alloc ?_ (by first | exact Nat.le_refl _ | (simp; done) | (simp; omega)) _ | refine Below.setCell ?_ (by first | exact Nat.le_refl _ | (simp; done) | (simp; omega)) _) hk0) (fail)
       ·go_wp2_with fail;go_meet;exact ⟨_,_,rfl,rfl,zh zqik⟩
       ·go_wp2_with fail;go_meet;exact ⟨_,_,rfl,rfl,zh zqjp⟩
      case rest =>
       obtain ⟨P,Q,rfl,rfl,hT⟩:=hcut;clear x3 z3 f0 f1 f2 g0 g1 g2;obtain ⟨f0,f1,f2⟩:=row3 hT.out.1;obtain ⟨g0,g1,g2⟩:=row3 hT.out.2.1;have HBc:=zh (zqaa HB.out hT.out.2.2.1);have hc1:=HC1.out _ hT.out.2.2.1;have hc2:=HC2.out _ hT.out.2.2.1;obtain ⟨hst,hst2⟩:=HST.out;clear hT HC1 HC2 HF5;generalize strB la = sa at *;generalize strB lb = sb at *;cases hd:decide (la = lb) with
       | false =>
        have hR:=HN0.out (by rw [hsx.out,hd]; rfl)
        subst hR;rw [hd] at hst hst2;simp only [Bool.not_false] at hst;go_wp2_with fail;go_ret;exact ⟨rfl,zqaa HB0.out HBc.out⟩
       | true =>
        rw [hd] at hst hst2;simp only [Bool.not_true] at hst;have HN1:=zh (fun (q:(sameB x1 y1 && sameB x2 y2) = false) => HN0.out (by rw [hsx.out,hd]; simpa using q))
        have HJ1:=zh (fun (q:(sameB x1 y1 && sameB x2 y2) = true) => HJn.out (by rw [hsx.out,hd]; simpa using q))
        clear hsx HN0 HJn hd;generalize sameB x1 y1 = s1 at *;generalize sameB x2 y2 = s2 at *;go_wp2_with fail;refine (HS1.out _).mono ?_; rintro e w5 ⟨rfl,hd⟩;have HB5:=zh (zqaa HBc.out hd.below);have g2:=cell_later hd.below g2;have f2:=cell_later hd.below f2;clear hd f0 f1 g0 g1 hc1 hc2;cases s1 with
        | false =>
         have hR:=HN1.out rfl;subst hR;go_wp2_with fail;go_ret;exact ⟨rfl,zqaa HB0.out HB5.out⟩
        | true =>
         go_wp2_with fail;refine (HS2.out _).mono ?_; rintro e w6 ⟨rfl,hd⟩;have HB6:=zh (zqaa HB5.out hd.below);clear hd;cases s2 with
         | false =>
          have hR:=HN1.out rfl;subst hR;go_wp2_with fail;go_ret;exact ⟨rfl,zqaa HB0.out HB6.out⟩
         | true =>
          have HJ2:=zh (HJ1.out rfl);go_wp2_with fail;go_roundw
          case rel => exact ⟨k + 1,hle.out,by go_num,HB6,HJ2⟩
          case measure => simp [intOf]; omega
     ·have:k = a.ns.length:=by omega
      subst this;have hR:R = true:=HY.out.2 ⟨HL.out.1,HL.out.2.1,HL.out.2.2.1,HL.out.2.2.2,HJi.out,HJ.out⟩;subst hR;go_wp2_with fail;go_ret;exact ⟨rfl,zqaa HB0.out HB.out⟩
end Go.Proofs.YtafmghloohhaeaaGreatDoor
