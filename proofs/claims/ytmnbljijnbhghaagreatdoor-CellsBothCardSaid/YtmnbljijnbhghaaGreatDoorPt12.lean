/- Contracts that the law leans on: Aggb Aggc Div Natx Power. -/
import Derived.Deep.RegionHeld3
import Derived.BigQuiet
import Derived.Deep.QuietTactic
import Derived.Deep.RegionLaw
import Derived.Test.YtmnbljijnbhghaaGreatDoorPt02
import Derived.Test.YtmnbljijnbhghaaGreatDoorPt04
import Derived.Test.YtmnbljijnbhghaaGreatDoorPt11
namespace Go.Proofs.YtmnbljijnbhghaaGreatDoor
set_option maxRecDepth 100000
open Go.RowKit
set_option linter.unusedVariables false
def sameWh (x y:Wh):Bool:=x.sum == y.sum && x.abs == y.abs && x.mn == y.mn && x.mx == y.mx && decide (x.sq = y.sq)
def sameRe (x y:Re):Bool:=decide (x.sum = y.sum) && sameB x.mn y.mn && sameB x.mx y.mx
def sameC (a b:Ce):Bool:=a.key == b.key && a.cnt == b.cnt && decide (a.is.length = b.is.length) && decide (a.ns.length = b.ns.length) && ((List.range a.is.length).all fun k => sameWh (wg a.is k) (wg b.is k)) && (List.range a.ns.length).all fun k => sameRe (rg a.ns k) (rg b.ns k)
structure SameP (a b:Ce):Prop where
 key:a.key = b.key
 cnt:a.cnt = b.cnt
 li:a.is.length = b.is.length
 ln:a.ns.length = b.ns.length
 is:∀ k,k < a.is.length → sameWh (wg a.is k) (wg b.is k) = true
 ns:∀ k,k < a.ns.length → sameRe (rg a.ns k) (rg b.ns k) = true
theorem same_iff {a b:Ce}:sameC a b = true ↔ SameP a b:=by
 constructor
 ·intro h;simp only [sameC,Bool.and_eq_true,beq_iff_eq,decide_eq_true_eq,List.all_eq_true,List.mem_range] at h;obtain ⟨⟨⟨⟨⟨h1,h2⟩,h3⟩,h4⟩,h5⟩,h6⟩:=h;exact ⟨h1,h2,h3,h4,h5,h6⟩
 ·rintro ⟨h1,h2,h3,h4,h5,h6⟩;simp only [sameC,Bool.and_eq_true,beq_iff_eq,decide_eq_true_eq,List.all_eq_true,List.mem_range];exact ⟨⟨⟨⟨⟨h1,h2⟩,h3⟩,h4⟩,h5⟩,h6⟩
theorem zqus {a b:Ce} (h:¬ SameP a b):sameC a b = false:=by
 cases e:sameC a b with
 | false => rfl
 | true => exact absurd (same_iff.1 e) h
set_option maxHeartbeats 2000000 in
theorem zqrm (u v:Value) (a b:List Int) (w:World) (hu:Ints .u32 w u a) (hv:Ints .u32 w v b) (ha:a.length ≤ 9223372036854775807) :
  Calls Tryz.prog 43 #[u,v] w fun e w' => e = .returned (.bool (decide (a = b))) ∧ Drawn w w':=by
 have HU:=zh hu;have HV:=zh hv;obtain ⟨p,c,rfl,-,-⟩:=hu;obtain ⟨q,d,rfl,-,-⟩:=hv
 by_cases hl:a.length = b.length
 ·have HR:=zh (show (∀ k,k < a.length → a.getD k 0 = b.getD k 0) → decide (a = b) = true from fun h => decide_eq_true (List.ext_getElem hl fun j j1 j2 => by
   have:=h j j1;simpa [List.getD,List.getElem?_eq_getElem j1,List.getElem?_eq_getElem j2] using this))
  have HN:=zh (show ∀ k,a.getD k 0 ≠ b.getD k 0 → decide (a = b) = false from fun k h => decide_eq_false fun e => h (by rw [e]))
  rw [← hl] at HV ⊢;have HL:=zh hl;clear hl;generalize decide (a = b) = R at *;go_enter Tryz.func43,Tryz.ntmps43;go_wp2_with fail;go_loopw [5] (fun i wr => ∃ k:Nat,k ≤ a.length ∧ i = .int .i64 k ∧ Hid (Drawn w wr) ∧ Hid (∀ j,j < k → a.getD j 0 = b.getD j 0)) (fun i _ => a.length - (intOf i).toNat)
  case atStart => exact ⟨0,Nat.zero_le _,rfl,zh (Drawn.refl w),zh (fun j hj => by omega)⟩
  case round =>
   obtain ⟨k,hk,rfl,HD,HJ⟩:=hrel
   by_cases hlk:k < a.length
   ·have hlk':(k:Int) < (a.length:Int):=by omega
    obtain ⟨b1,o1,rfl,-,g1⟩:=(HU.out.below HD.out.below).cell (i:=k) hlk;obtain ⟨b2,o2,rfl,-,g2⟩:=(HV.out.below HD.out.below).cell (i:=k) (by have:=HL.out; omega)
    have hle:Hid (k + 1 ≤ a.length):=zh (by omega)
    have HNx:=zh (fun (q:a.getD k 0 = b.getD k 0) => fun j (hj:j < k + 1) => show a.getD j 0 = b.getD j 0 from if e:j = k then e ▸ q else HJ.out j (by omega))
    have HNk:=zh (HN.out k);have HDn:=zh (fun n => HD.out.next n)
    generalize a.getD k 0 = x at *;generalize b.getD k 0 = y at *
    by_cases hq:x = y
    ·subst hq;have HJ2:=zh (HNx.out rfl);have hnn:(x != x) = false:=by simp
     clear HNx HNk;go_upto_region 6 with fail;go_quiet (fail);have HD2:=zh (HDn.out nq);go_wp2;go_roundw
     case rel => exact ⟨k + 1,hle.out,by go_num,HD2,HJ2⟩
     case measure => simp [intOf]; omega
    ·have hR:=HNk.out hq;subst hR;have hnn:(x != y) = true:=by simpa using hq
     clear HNx HNk hq;go_upto_region 6 with fail;go_quiet (fail);have HD2:=zh (HDn.out nq);go_wp2;go_ret;exact ⟨rfl,HD2.out⟩
   ·have:k = a.length:=by omega
    subst this;have hR:=HR.out HJ.out;subst hR;go_wp2_with fail;go_ret;exact ⟨rfl,HD.out⟩
 ·have hR:decide (a = b) = false:=decide_eq_false fun e => hl (by rw [e])
  rw [hR];have hnn:((a.length:Int) != (b.length:Int)) = true:=by simp; omega
  clear HU HV hR;go_enter Tryz.func43,Tryz.ntmps43;go_wp2_with fail;go_ret;exact ⟨rfl,Drawn.refl w⟩
theorem zqlu (l:List Int):(strB l).toList = l.map fun x => UInt8.ofNat x.toNat:=by rw [ByteArray.toList_eq]; simp [strB]
theorem zqzq {x:Int} (h0:0 ≤ x) (h1:x ≤ 255):((UInt8.ofNat x.toNat).toNat:Int) = x:=by
 rw [UInt8.toNat_ofNat'];omega
theorem zqxn {a b:List Int} (ha:Bt a) (hb:Bt b) (h:a.map (fun x => UInt8.ofNat x.toNat) = b.map (fun x => UInt8.ofNat x.toNat)):a = b:=by
 have h3:(a.map (fun x => UInt8.ofNat x.toNat)).map (fun c => (c.toNat:Int)) = (b.map (fun x => UInt8.ofNat x.toNat)).map (fun c => (c.toNat:Int)):=by rw [h]
 have back:∀ l:List Int,Bt l → (l.map (fun x => UInt8.ofNat x.toNat)).map (fun c => (c.toNat:Int)) = l:=fun l hl => by
  rw [List.map_map]
  conv => rhs; rw [← List.map_id l]
  exact List.map_congr_left fun x hx => zqzq (hl x hx).1 (hl x hx).2
 rwa [back a ha,back b hb] at h3
theorem zqio {a b:List Int} (ha:Bt a) (hb:Bt b):((strB a).toList == (strB b).toList) = decide (a = b):=by
 rw [zqlu,zqlu]
 by_cases h:a = b
 ·subst h; simp
 ·rw [decide_eq_false h];exact beq_eq_false_iff_ne.2 fun e => h (zqxn ha hb e)
theorem zqxm {a b:List Int} (ha:Bt a) (hb:Bt b):((strB a).toList != (strB b).toList) = !decide (a = b):=by
 rw [bne,zqio ha hb]
theorem hold12 {w w':World} (hb:Below w.heap.size w w') {p0 p1 p2 p3 p4 p5 p6 p7 p8 p9 p10 p11:Addr} {v0 v1 v2 v3 v4 v5 v6 v7 v8 v9 v10 v11:Value}
  (h:w.cell? p0 = some v0 ∧ w.cell? p1 = some v1 ∧ w.cell? p2 = some v2 ∧ w.cell? p3 = some v3 ∧ w.cell? p4 = some v4 ∧ w.cell? p5 = some v5 ∧ w.cell? p6 = some v6 ∧ w.cell? p7 = some v7 ∧ w.cell? p8 = some v8 ∧ w.cell? p9 = some v9 ∧ w.cell? p10 = some v10 ∧ w.cell? p11 = some v11) :
  w'.cell? p0 = some v0 ∧ w'.cell? p1 = some v1 ∧ w'.cell? p2 = some v2 ∧ w'.cell? p3 = some v3 ∧ w'.cell? p4 = some v4 ∧ w'.cell? p5 = some v5 ∧ w'.cell? p6 = some v6 ∧ w'.cell? p7 = some v7 ∧ w'.cell? p8 = some v8 ∧ w'.cell? p9 = some v9 ∧ w'.cell? p10 = some v10 ∧ w'.cell? p11 = some v11:=by
 obtain ⟨h0,h1,h2,h3,h4,h5,h6,h7,h8,h9,h10,h11⟩:=h;exact ⟨cell_later hb h0,cell_later hb h1,cell_later hb h2,cell_later hb h3,cell_later hb h4,cell_later hb h5,cell_later hb h6,cell_later hb h7,cell_later hb h8,cell_later hb h9,cell_later hb h10,cell_later hb h11⟩
theorem hold8 {w w':World} (hb:Below w.heap.size w w') {p0 p1 p2 p3 p4 p5 p6 p7:Addr} {v0 v1 v2 v3 v4 v5 v6 v7:Value}
  (h:w.cell? p0 = some v0 ∧ w.cell? p1 = some v1 ∧ w.cell? p2 = some v2 ∧ w.cell? p3 = some v3 ∧ w.cell? p4 = some v4 ∧ w.cell? p5 = some v5 ∧ w.cell? p6 = some v6 ∧ w.cell? p7 = some v7) :
  w'.cell? p0 = some v0 ∧ w'.cell? p1 = some v1 ∧ w'.cell? p2 = some v2 ∧ w'.cell? p3 = some v3 ∧ w'.cell? p4 = some v4 ∧ w'.cell? p5 = some v5 ∧ w'.cell? p6 = some v6 ∧ w'.cell? p7 = some v7:=by
 obtain ⟨h0,h1,h2,h3,h4,h5,h6,h7⟩:=h;exact ⟨cell_later hb h0,cell_later hb h1,cell_later hb h2,cell_later hb h3,cell_later hb h4,cell_later hb h5,cell_later hb h6,cell_later hb h7⟩
theorem zqa6 {P:Program} {w:World} {a:Addr} {m:Mode} (k:Nat):(store a (.float .f64 k) m).run P w = stored P w a (.float .f64 k) m:=run_store P w a _ m rfl
def TwoAt (T:TypeId) (w:World) (P Q:Nat) (x y:Array Value) (wx:World):Prop:=wx.heap[P]? = some (.cells x T (0,0)) ∧ wx.heap[Q]? = some (.cells y T (0,0)) ∧ Below w.heap.size w wx ∧ w.heap.size ≤ P ∧ w.heap.size ≤ Q
theorem zqeg {T:TypeId} {w:World} {x y:Array Value}:TwoAt T w w.heap.size (w.heap.size + 1) x y ((w.alloc (.cells x T)).alloc (.cells y T)).drew:=by
 have h1:(w.alloc (.cells x T)).heap[w.heap.size]? = some (.cells x T (0,0)):=heap_alloc_new w _;have h2:((w.alloc (.cells x T)).alloc (.cells y T)).heap[(w.alloc (.cells x T)).heap.size]? = some (.cells y T (0,0)):=heap_alloc_new _ _;rw [World.size_alloc] at h2;refine ⟨?_,h2,(zqaa (zqab w _) (zqab _ _)).drew,Nat.le_refl _,Nat.le_succ _⟩;have hb:=(zqab (w.alloc (.cells x T)) (.cells y T)).block w.heap.size (by simp)
 exact hb.trans h1
theorem zqds {T:TypeId} {w:World} {x y:Array Value}:TwoAt T w (w.heap.size + 1) w.heap.size x y ((w.alloc (.cells y T)).alloc (.cells x T)).drew:=by
 obtain ⟨h1,h2,h3,h4,h5⟩:=zqeg (T:=T) (w:=w) (x:=y) (y:=x);exact ⟨h2,h1,h3,h5,h4⟩
theorem row5 {w:World} {P:Nat} {T:TypeId} {a b c d e:Value} (h:w.heap[P]? = some (.cells #[a,b,c,d,e] T (0,0))):w.cell? ⟨P,0,none⟩ = some a ∧ w.cell? ⟨P,1,none⟩ = some b ∧ w.cell? ⟨P,2,none⟩ = some c ∧ w.cell? ⟨P,3,none⟩ = some d ∧ w.cell? ⟨P,4,none⟩ = some e:=by
 refine ⟨by simp [World.cell?,h],by simp [World.cell?,h],by simp [World.cell?,h],by simp [World.cell?,h],by simp [World.cell?,h]⟩
theorem row3 {w:World} {P:Nat} {T:TypeId} {a b c:Value} (h:w.heap[P]? = some (.cells #[a,b,c] T (0,0))):w.cell? ⟨P,0,none⟩ = some a ∧ w.cell? ⟨P,1,none⟩ = some b ∧ w.cell? ⟨P,2,none⟩ = some c:=by
 refine ⟨by simp [World.cell?,h],by simp [World.cell?,h],by simp [World.cell?,h]⟩
set_option maxHeartbeats 8000000 in
theorem zqow (w:World) (a b:Ce) (I N I' N':Value) (h:CeM w I N a) (h':CeM w I' N' b) (ha:CeW a) (hb:CeW b) :
  Calls Tryz.prog 18 #[CeV a I N,CeV b I' N'] w fun e w' => e = .returned (.bool (sameC a b)) ∧ Below w.heap.size w w':=by
 have hb1:=zqab w (CeO a I N);have hb2:=zqab (w.alloc (CeO a I N)) (CeO b I' N');have HB0:=zh (zqaa hb1 hb2);have HX:=zh ((zqbe w a I N).below hb2);have hx2:=zqbe (w.alloc (CeO a I N)) b I' N';rw [show (w.alloc (CeO a I N)).heap.size = w.heap.size + 1 by simp] at hx2
 have HX2:=zh hx2;have HI:=zh (h.i.below HB0.out);have HN:=zh (h.n.below HB0.out);have HI':=zh (h'.i.below HB0.out);have HN':=zh (h'.n.below HB0.out);have HWa:=zh ha;have HWb:=zh hb;obtain ⟨⟨p,k1,rfl⟩,p2,k2,rfl⟩:=h.slices;obtain ⟨⟨p',k1',rfl⟩,p2',k2',rfl⟩:=h'.slices;have HY:=zh (@same_iff a b);have HF:=zh (@zqus a b);clear h h' ha hb hb1 hb2 hx2;generalize sameC a b = R at *;go_enter Tryz.func18,Tryz.ntmps18;go_upto_region 1 with fail;generalize (w.alloc (CeO a (.slice p a.is.length k1) (.slice p2 a.ns.length k2))).alloc (CeO b (.slice p' b.is.length k1') (.slice p2' b.ns.length k2')) = W at *;obtain ⟨x0,x1,x2,x3⟩:=HX.out.reads;obtain ⟨z0,z1,z2,z3⟩:=HX2.out.reads;have hcases:(a.key != b.key) = true ∨ ((a.key != b.key) = false ∧ (a.cnt != b.cnt) = true) ∨ ((a.key != b.key) = false ∧ (a.cnt != b.cnt) = false ∧ ((a.is.length:Int) != (b.is.length:Int)) = true) ∨ ((a.key != b.key) = false ∧ (a.cnt != b.cnt) = false ∧ ((a.is.length:Int) != (b.is.length:Int)) = false ∧ ((a.ns.length:Int) != (b.ns.length:Int)) = true) ∨ ((a.key != b.key) = false ∧ (a.cnt != b.cnt) = false ∧ ((a.is.length:Int) != (b.is.length:Int)) = false ∧ ((a.ns.length:Int) != (b.ns.length:Int)) = false):=by
  cases (a.key != b.key) <;> cases (a.cnt != b.cnt) <;> cases ((a.is.length:Int) != (b.is.length:Int)) <;> cases ((a.ns.length:Int) != (b.ns.length:Int)) <;> simp
 rcases hcases with e1 | ⟨e1,e2⟩ | ⟨e1,e2,e3⟩ | ⟨e1,e2,e3,e4⟩ | ⟨e1,e2,e3,e4⟩
 ·have hR:=HF.out (fun q => by have:=q.key; simp at e1; exact e1 this)
  subst hR;go_wp2_with fail;go_ret;exact ⟨rfl,HB0.out⟩
 ·have hR:=HF.out (fun q => by have:=q.cnt; simp at e2; exact e2 this)
  subst hR;go_wp2_with fail;go_ret;exact ⟨rfl,HB0.out⟩
 ·have hR:=HF.out (fun q => by have:=q.li; simp at e3; omega)
  subst hR;go_wp2_with fail;go_ret;exact ⟨rfl,HB0.out⟩
 ·have hR:=HF.out (fun q => by have:=q.ln; simp at e4; omega)
  subst hR;go_wp2_with fail;go_ret;exact ⟨rfl,HB0.out⟩
 ·have hmi:a.is.length ≤ 9223372036854775807:=by obtain ⟨_,_,_,_,h,_⟩:=HI.out; exact h
  have hmn:a.ns.length ≤ 9223372036854775807:=by obtain ⟨_,_,_,_,h,_⟩:=HN.out; exact h
  have HL:=zh (show a.key = b.key ∧ a.cnt = b.cnt ∧ a.is.length = b.is.length ∧ a.ns.length = b.ns.length by simp at e1 e2 e3 e4; exact ⟨e1,e2,by omega,by omega⟩)
  go_wp2_with fail;clear e1 e2 e3 e4 x0 x1 x2 x3 z0 z1 z2 z3;go_loopw [5] (fun i wr => ∃ k:Nat,k ≤ a.is.length ∧ i = .int .i64 k ∧ Hid (Below W.heap.size W wr) ∧ Hid (∀ j,j < k → sameWh (wg a.is j) (wg b.is j) = true)) (fun i _ => a.is.length - (intOf i).toNat)
  case atStart => exact ⟨0,Nat.zero_le _,rfl,zh (Below.refl _ _),zh (fun j hj => by omega)⟩
  case round =>
   obtain ⟨k,hk,rfl,HB,HJ⟩:=hrel
   by_cases hlk:k < a.is.length
   ·have hlk':(k:Int) < (a.is.length:Int):=by omega
    obtain ⟨ba,oa,qa,rfl,hqa⟩:=(HI.out.below HB.out).at hlk;obtain ⟨bb,ob,qb,rfl,hqb⟩:=(HI'.out.below HB.out).at (i:=k) (by have:=HL.out; omega)
    obtain ⟨-,-,x2,-⟩:=(HX.out.below HB.out).reads;obtain ⟨-,-,z2,-⟩:=(HX2.out.below HB.out).reads;have hle:Hid (k + 1 ≤ a.is.length):=zh (by omega)
    have hkb:(k:Int) < (b.is.length:Int):=by have:=HL.out; omega
    obtain ⟨f0,f1,f2,f3,f4,f5⟩:=hqa;obtain ⟨g0,g1,g2,g3,g4,g5⟩:=hqb;have HN0:=zh (fun (q:sameWh (wg a.is k) (wg b.is k) = false) => HF.out (fun z => by have:=z.is k hlk; rw [q] at this; cases this))
    have HJn:=zh (fun (q:sameWh (wg a.is k) (wg b.is k) = true) => fun j (hj:j < k + 1) => (if e:j = k then e ▸ q else HJ.out j (by omega):sameWh (wg a.is j) (wg b.is j) = true))
    have hla:(wg a.is k).sq.length ≤ 9223372036854775807:=(HWa.out.wg hlk).len;have hsx:Hid (sameWh (wg a.is k) (wg b.is k) = ((wg a.is k).sum == (wg b.is k).sum && (wg a.is k).abs == (wg b.is k).abs && (wg a.is k).mn == (wg b.is k).mn && (wg a.is k).mx == (wg b.is k).mx && decide ((wg a.is k).sq = (wg b.is k).sq))):=zh rfl;generalize (wg a.is k).sum = x0 at *;generalize (wg a.is k).abs = x1 at *;generalize (wg a.is k).mn = x3 at *;generalize (wg a.is k).mx = x4 at *;generalize (wg b.is k).sum = y0 at *;generalize (wg b.is k).abs = y1 at *;generalize (wg b.is k).mn = y3 at *;generalize (wg b.is k).mx = y4 at *;generalize (wg a.is k).sq = la at *;generalize (wg b.is k).sq = lb at *;have HF5:=zh (And.intro f5 g5);obtain ⟨pqa,cqa,rfl,-,-⟩:=f5;obtain ⟨pqb,cqb,rfl,-,-⟩:=g5;go_upto_region 6 with fail;go_cut [6,7] from 41 to 91 (fun v6 v7 wx => ∃ P Q:Nat,v6 = .pointer (some ⟨P,0,none⟩) ∧ v7 = .pointer (some ⟨Q,0,none⟩) ∧ Hid (TwoAt 85 wr P Q #[.int .i64 x0,.int .i64 x1,.slice pqa la.length cqa,.int .i64 x3,.int .i64 x4] #[.int .i64 y0,.int .i64 y1,.slice pqb lb.length cqb,.int .i64 y3,.int .i64 y4] wx))
    case first =>
     have hk0:wr.cell? ⟨w.heap.size,2,none⟩ = some (.slice (some ⟨ba,oa,none⟩) a.is.length k1) ∧ wr.cell? ⟨w.heap.size + 1,2,none⟩ = some (.slice (some ⟨bb,ob,none⟩) b.is.length k1') ∧ wr.cell? ⟨ba,oa + k * 5,none⟩ = some (.int .i64 x0) ∧ wr.cell? ⟨ba,oa + k * 5 + 1,none⟩ = some (.int .i64 x1) ∧ wr.cell? ⟨ba,oa + k * 5 + 2,none⟩ = some (.slice pqa la.length cqa) ∧ wr.cell? ⟨ba,oa + k * 5 + 3,none⟩ = some (.int .i64 x3) ∧ wr.cell? ⟨ba,oa + k * 5 + 4,none⟩ = some (.int .i64 x4) ∧ wr.cell? ⟨bb,ob + k * 5,none⟩ = some (.int .i64 y0) ∧ wr.cell? ⟨bb,ob + k * 5 + 1,none⟩ = some (.int .i64 y1) ∧ wr.cell? ⟨bb,ob + k * 5 + 2,none⟩ = some (.slice pqb lb.length cqb) ∧ wr.cell? ⟨bb,ob + k * 5 + 3,none⟩ = some (.int .i64 y3) ∧ wr.cell? ⟨bb,ob + k * 5 + 4,none⟩ = some (.int .i64 y4):=⟨x2,z2,f0,f1,f2,f3,f4,g0,g1,g2,g3,g4⟩;have hk:wr.drew.cell? ⟨w.heap.size,2,none⟩ = some (.slice (some ⟨ba,oa,none⟩) a.is.length k1) ∧ wr.drew.cell? ⟨w.heap.size + 1,2,none⟩ = some (.slice (some ⟨bb,ob,none⟩) b.is.length k1') ∧ wr.drew.cell? ⟨ba,oa + k * 5,none⟩ = some (.int .i64 x0) ∧ wr.drew.cell? ⟨ba,oa + k * 5 + 1,none⟩ = some (.int .i64 x1) ∧ wr.drew.cell? ⟨ba,oa + k * 5 + 2,none⟩ = some (.slice pqa la.length cqa) ∧ wr.drew.cell? ⟨ba,oa + k * 5 + 3,none⟩ = some (.int .i64 x3) ∧ wr.drew.cell? ⟨ba,oa + k * 5 + 4,none⟩ = some (.int .i64 x4) ∧ wr.drew.cell? ⟨bb,ob + k * 5,none⟩ = some (.int .i64 y0) ∧ wr.drew.cell? ⟨bb,ob + k * 5 + 1,none⟩ = some (.int .i64 y1) ∧ wr.drew.cell? ⟨bb,ob + k * 5 + 2,none⟩ = some (.slice pqb lb.length cqb) ∧ wr.drew.cell? ⟨bb,ob + k * 5 + 3,none⟩ = some (.int .i64 y3) ∧ wr.drew.cell? ⟨bb,ob + k * 5 + 4,none⟩ = some (.int .i64 y4):=hk0;have hlo:ba < wr.heap.size ∧ bb < wr.heap.size ∧ w.heap.size + 1 < wr.heap.size:=⟨World.block_lt_of_cell? _ _ f0,World.block_lt_of_cell? _ _ g0,World.block_lt_of_cell? _ _ z2⟩;clear x2 z2 f0 f1 f2 f3 f4 g0 g1 g2 g3 g4;go_region_held3 (fun w' => w'.cell? ⟨w.heap.size,2,none⟩ = some (.slice (some ⟨ba,oa,none⟩) a.is.length k1) ∧ w'.cell? ⟨w.heap.size + 1,2,none⟩ = some (.slice (some ⟨bb,ob,none⟩) b.is.length k1') ∧ w'.cell? ⟨ba,oa + k * 5,none⟩ = some (.int .i64 x0) ∧ w'.cell? ⟨ba,oa + k * 5 + 1,none⟩ = some (.int .i64 x1) ∧ w'.cell? ⟨ba,oa + k * 5 + 2,none⟩ = some (.slice pqa la.length cqa) ∧ w'.cell? ⟨ba,oa + k * 5 + 3,none⟩ = some (.int .i64 x3) ∧ w'.cell? ⟨ba,oa + k * 5 + 4,none⟩ = some (.int .i64 x4) ∧ w'.cell? ⟨bb,ob + k * 5,none⟩ = some (.int .i64 y0) ∧ w'.cell? ⟨bb,ob + k * 5 + 1,none⟩ = some (.int .i64 y1) ∧ w'.cell? ⟨bb,ob + k * 5 + 2,none⟩ = some (.slice pqb lb.length cqb) ∧ w'.cell? ⟨bb,ob + k * 5 + 3,none⟩ = some (.int .i64 y3) ∧ w'.cell? ⟨bb,ob + k * 5 + 4,none⟩ = some (.int .i64 y4)) (first | (with_reducible exact hk) | exact hold12 (by repeat' first | exact Below.refl _ _ | refine Below.drew ?_ | refine Below.alloc ?_ (by first | exact Nat.le_refl _ | (simp; done) | (simp; omega)) _ | refine Below.setCell ?_ (by first | exact Nat.le_refl _ | (simp; done) | (simp; omega)) _) hk0) (fail)
     ·go_wp2_with fail;go_meet;exact ⟨_,_,rfl,rfl,zh zqeg⟩
     ·go_wp2_with fail;go_meet;exact ⟨_,_,rfl,rfl,zh zqds⟩
    case rest =>
     obtain ⟨P,Q,rfl,rfl,hT⟩:=hcut;obtain ⟨f0,f1,f2,f3,f4⟩:=row5 hT.out.1;obtain ⟨g0,g1,g2,g3,g4⟩:=row5 hT.out.2.1;have HBc:=zh (zqaa HB.out hT.out.2.2.1);have HS2:=zh (fun w1 (hb:Below wc.heap.size wc w1) => zqrm _ _ la lb w1 ((HF5.out.1.below hT.out.2.2.1).below hb) ((HF5.out.2.below hT.out.2.2.1).below hb) hla)
     have hex:(x0 != y0) = true ∨ ((x0 != y0) = false ∧ (x1 != y1) = true) ∨ ((x0 != y0) = false ∧ (x1 != y1) = false ∧ (x3 != y3) = true) ∨ ((x0 != y0) = false ∧ (x1 != y1) = false ∧ (x3 != y3) = false ∧ (x4 != y4) = true) ∨ ((x0 != y0) = false ∧ (x1 != y1) = false ∧ (x3 != y3) = false ∧ (x4 != y4) = false):=by
      cases (x0 != y0) <;> cases (x1 != y1) <;> cases (x3 != y3) <;> cases (x4 != y4) <;> simp
     clear hT;rcases hex with e1 | ⟨e1,e2⟩ | ⟨e1,e2,e3⟩ | ⟨e1,e2,e3,e4⟩ | ⟨e1,e2,e3,e4⟩
     ·have hR:=HN0.out (by rw [hsx.out]; simp at e1; simp [e1])
      subst hR;go_wp2_with fail;go_ret;exact ⟨rfl,zqaa HB0.out HBc.out⟩
     ·have hR:=HN0.out (by rw [hsx.out]; simp at e2; simp [e2])
      subst hR;go_wp2_with fail;go_ret;exact ⟨rfl,zqaa HB0.out HBc.out⟩
     ·have hR:=HN0.out (by rw [hsx.out]; simp at e3; simp [e3])
      subst hR;go_wp2_with fail;go_ret;exact ⟨rfl,zqaa HB0.out HBc.out⟩
     ·have hR:=HN0.out (by rw [hsx.out]; simp at e4; simp [e4])
      subst hR;go_wp2_with fail;go_ret;exact ⟨rfl,zqaa HB0.out HBc.out⟩
     ·have hsy:sameWh (wg a.is k) (wg b.is k) = decide (la = lb):=by rw [hsx.out]; simp at e1 e2 e3 e4; simp [e1,e2,e3,e4]
      have HN1:=zh (fun (q:decide (la = lb) = false) => HN0.out (hsy.trans q))
      have HJ1:=zh (fun (q:decide (la = lb) = true) => HJn.out (hsy.trans q))
      clear hsx hsy HN0 HJn;generalize decide (la = lb) = dl at *;go_wp2_with fail;refine (HS2.out _ (Below.refl _ _)).mono ?_; rintro e w5 ⟨rfl,hd⟩;have HB5:=zh (zqaa HBc.out hd.below);clear hd;cases dl with
      | false =>
       have hR:=HN1.out rfl;subst hR;go_wp2_with fail;go_ret;exact ⟨rfl,zqaa HB0.out HB5.out⟩
      | true =>
       have HJ2:=zh (HJ1.out rfl);go_wp2_with fail;go_roundw
       case rel => exact ⟨k + 1,hle.out,by go_num,HB5,HJ2⟩
       case measure => simp [intOf]; omega
   ·have:k = a.is.length:=by omega
    subst this;have HJi:=zh HJ.out;obtain ⟨-,-,x2,x3⟩:=(HX.out.below HB.out).reads;obtain ⟨-,-,z2,z3⟩:=(HX2.out.below HB.out).reads;go_wp2_with fail;clear x2 x3 z2 z3;generalize wr = wz at *;go_loopw [8] (fun i wr => ∃ k:Nat,k ≤ a.ns.length ∧ i = .int .i64 k ∧ Hid (Below W.heap.size W wr) ∧ Hid (∀ j,j < k → sameRe (rg a.ns j) (rg b.ns j) = true)) (fun i _ => a.ns.length - (intOf i).toNat)
    case atStart => exact ⟨0,Nat.zero_le _,rfl,HB,zh (fun j hj => by omega)⟩
    case round =>
     clear HB HJ;obtain ⟨k,hk,rfl,HB,HJ⟩:=hrel;obtain ⟨-,-,-,x3⟩:=(HX.out.below HB.out).reads;obtain ⟨-,-,-,z3⟩:=(HX2.out.below HB.out).reads
     by_cases hlk:k < a.ns.length
     ·have hlk':(k:Int) < (a.ns.length:Int):=by omega
      obtain ⟨ba,oa,qa,rfl,hqa⟩:=(HN.out.below HB.out).at hlk;obtain ⟨bb,ob,qb,rfl,hqb⟩:=(HN'.out.below HB.out).at (i:=k) (by have:=HL.out; omega)
      have hle:Hid (k + 1 ≤ a.ns.length):=zh (by omega)
      have hkb:(k:Int) < (b.ns.length:Int):=by have:=HL.out; omega
      obtain ⟨f0,f1,f2,f5⟩:=hqa;obtain ⟨g0,g1,g2,g5⟩:=hqb;have HN0:=zh (fun (q:sameRe (rg a.ns k) (rg b.ns k) = false) => HF.out (fun z => by have:=z.ns k hlk; rw [q] at this; cases this))
      have HJn:=zh (fun (q:sameRe (rg a.ns k) (rg b.ns k) = true) => fun j (hj:j < k + 1) => (if e:j = k then e ▸ q else HJ.out j (by omega):sameRe (rg a.ns j) (rg b.ns j) = true))
      obtain ⟨hwa,-,wa1,wa2⟩:=HWa.out.rg hlk;obtain ⟨hwb,-,wb1,wb2⟩:=HWb.out.rg (i:=k) (by have:=HL.out; omega)
      have hsx:Hid (sameRe (rg a.ns k) (rg b.ns k) = (decide ((rg a.ns k).sum = (rg b.ns k).sum) && sameB (rg a.ns k).mn (rg b.ns k).mn && sameB (rg a.ns k).mx (rg b.ns k).mx)):=zh rfl;have hst:=zqxm hwa hwb;have hst2:=zqio hwa hwb;generalize (rg a.ns k).mn = x1 at *;generalize (rg a.ns k).mx = x2 at *;generalize (rg b.ns k).mn = y1 at *;generalize (rg b.ns k).mx = y2 at *;generalize (rg a.ns k).sum = la at *;generalize (rg b.ns k).sum = lb at *;have HF5:=zh (And.intro f5 g5);have HC1:=zh (fun w1 (hb:Below wr.heap.size wr w1) => zqel (f5.below hb) hwa)
      have HC2:=zh (fun w1 (hb:Below wr.heap.size wr w1) => zqel (g5.below hb) hwb)
      have HS1:=zh (fun w1 => zqlo x1 y1 w1 wa1 wb1)
      have HS2:=zh (fun w1 => zqlo x2 y2 w1 wa2 wb2)
      obtain ⟨pqa,cqa,rfl,-,-⟩:=f5;obtain ⟨pqb,cqb,rfl,-,-⟩:=g5;have HST:=zh (And.intro hst hst2);clear hst hst2 hwa hwb wa1 wa2 wb1 wb2;go_upto_region 12 with fail;go_cut [9,10] from 92 to 131 (fun v9 v10 wx => ∃ P Q:Nat,v9 = .pointer (some ⟨P,0,none⟩) ∧ v10 = .pointer (some ⟨Q,0,none⟩) ∧ Hid (TwoAt 90 wr P Q #[.slice pqa la.length cqa,.float .f64 x1,.float .f64 x2] #[.slice pqb lb.length cqb,.float .f64 y1,.float .f64 y2] wx))
      case first =>
       have hk0:wr.cell? ⟨w.heap.size,3,none⟩ = some (.slice (some ⟨ba,oa,none⟩) a.ns.length k2) ∧ wr.cell? ⟨w.heap.size + 1,3,none⟩ = some (.slice (some ⟨bb,ob,none⟩) b.ns.length k2') ∧ wr.cell? ⟨ba,oa + k * 3,none⟩ = some (.slice pqa la.length cqa) ∧ wr.cell? ⟨ba,oa + k * 3 + 1,none⟩ = some (.float .f64 x1) ∧ wr.cell? ⟨ba,oa + k * 3 + 2,none⟩ = some (.float .f64 x2) ∧ wr.cell? ⟨bb,ob + k * 3,none⟩ = some (.slice pqb lb.length cqb) ∧ wr.cell? ⟨bb,ob + k * 3 + 1,none⟩ = some (.float .f64 y1) ∧ wr.cell? ⟨bb,ob + k * 3 + 2,none⟩ = some (.float .f64 y2):=⟨x3,z3,f0,f1,f2,g0,g1,g2⟩;have hk:wr.drew.cell? ⟨w.heap.size,3,none⟩ = some (.slice (some ⟨ba,oa,none⟩) a.ns.length k2) ∧ wr.drew.cell? ⟨w.heap.size + 1,3,none⟩ = some (.slice (some ⟨bb,ob,none⟩) b.ns.length k2') ∧ wr.drew.cell? ⟨ba,oa + k * 3,none⟩ = some (.slice pqa la.length cqa) ∧ wr.drew.cell? ⟨ba,oa + k * 3 + 1,none⟩ = some (.float .f64 x1) ∧ wr.drew.cell? ⟨ba,oa + k * 3 + 2,none⟩ = some (.float .f64 x2) ∧ wr.drew.cell? ⟨bb,ob + k * 3,none⟩ = some (.slice pqb lb.length cqb) ∧ wr.drew.cell? ⟨bb,ob + k * 3 + 1,none⟩ = some (.float .f64 y1) ∧ wr.drew.cell? ⟨bb,ob + k * 3 + 2,none⟩ = some (.float .f64 y2):=hk0;have hlo:ba < wr.heap.size ∧ bb < wr.heap.size ∧ w.heap.size + 1 < wr.heap.size:=⟨World.block_lt_of_cell? _ _ f0,World.block_lt_of_cell? _ _ g0,World.block_lt_of_cell? _ _ z3⟩;clear x3 z3 f0 f1 f2 g0 g1 g2;have hsf:=fun (w:World) (a:Addr) (m:Mode) (k:Nat) => zqa6 (P:=Tryz.prog) (w:=w) (a:=a) (m:=m) k
       go_region_held3 (fun w' => w'.cell? ⟨w.heap.size,3,none⟩ = some (.slice (some ⟨ba,oa,none⟩) a.ns.length k2) ∧ w'.cell? ⟨w.heap.size + 1,3,none⟩ = some (.slice (some ⟨bb,ob,none⟩) b.ns.length k2') ∧ w'.cell? ⟨ba,oa + k * 3,none⟩ = some (.slice pqa la.length cqa) ∧ w'.cell? ⟨ba,oa + k * 3 + 1,none⟩ = some (.float .f64 x1) ∧ w'.cell? ⟨ba,oa + k * 3 + 2,none⟩ = some (.float .f64 x2) ∧ w'.cell? ⟨bb,ob + k * 3,none⟩ = some (.slice pqb lb.length cqb) ∧ w'.cell? ⟨bb,ob + k * 3 + 1,none⟩ = some (.float .f64 y1) ∧ w'.cell? ⟨bb,ob + k * 3 + 2,none⟩ = some (.float .f64 y2)) (first | (with_reducible exact hk) | exact hold8 (by repeat' first | exact Below.refl _ _ | refine Below.drew ?_ | refine Below.alloc ?_ (by first | exact Nat.le_refl _ | (simp; done) | (simp; omega)) _ | refine Below.setCell ?_ (by first | exact Nat.le_refl _ | (simp; done) | (simp; omega)) _) hk0) (fail)
       ·go_wp2_with fail;go_meet;exact ⟨_,_,rfl,rfl,zh zqeg⟩
       ·go_wp2_with fail;go_meet;exact ⟨_,_,rfl,rfl,zh zqds⟩
      case rest =>
       obtain ⟨P,Q,rfl,rfl,hT⟩:=hcut;clear x3 z3 f0 f1 f2 g0 g1 g2;obtain ⟨f0,f1,f2⟩:=row3 hT.out.1;obtain ⟨g0,g1,g2⟩:=row3 hT.out.2.1;have HBc:=zh (zqaa HB.out hT.out.2.2.1);have hc1:=HC1.out _ hT.out.2.2.1;have hc2:=HC2.out _ hT.out.2.2.1;obtain ⟨hst,hst2⟩:=HST.out;clear hT HC1 HC2 HF5;generalize strB la = sa at *;generalize strB lb = sb at *;cases hd:decide (la = lb) with
       | false =>
        have hR:=HN0.out (by rw [hsx.out,hd]; rfl)
        subst hR;rw [hd] at hst hst2;simp only [Bool.not_false] at hst;go_wp2_with fail;go_ret;exact ⟨rfl,zqaa HB0.out HBc.out⟩
       | true =>
        rw [hd] at hst hst2;simp only [Bool.not_true] at hst;have HN1:=zh (fun (q:(sameB x1 y1 && sameB x2 y2) = false) => HN0.out (by rw [hsx.out,hd]; simpa using q))
        have HJ1:=zh (fun (q:(sameB x1 y1 && sameB x2 y2) = true) => HJn.out (by rw [hsx.out,hd]; simpa using q))
        clear hsx HN0 HJn hd;generalize sameB x1 y1 = s1 at *;generalize sameB x2 y2 = s2 at *;go_wp2_with fail;refine (HS1.out _).mono ?_; rintro e w5 ⟨rfl,hd⟩;have HB5:=zh (zqaa HBc.out hd.below);have g2:=cell_later hd.below g2;have f2:=cell_later hd.below f2;clear hd f0 f1 g0 g1 hc1 hc2;cases s1 with
        | false =>
         have hR:=HN1.out rfl;subst hR;go_wp2_with fail;go_ret;exact ⟨rfl,zqaa HB0.out HB5.out⟩
        | true =>
         go_wp2_with fail;refine (HS2.out _).mono ?_; rintro e w6 ⟨rfl,hd⟩;have HB6:=zh (zqaa HB5.out hd.below);clear hd;cases s2 with
         | false =>
          have hR:=HN1.out rfl;subst hR;go_wp2_with fail;go_ret;exact ⟨rfl,zqaa HB0.out HB6.out⟩
         | true =>
          have HJ2:=zh (HJ1.out rfl);go_wp2_with fail;go_roundw
          case rel => exact ⟨k + 1,hle.out,by go_num,HB6,HJ2⟩
          case measure => simp [intOf]; omega
     ·have:k = a.ns.length:=by omega
      subst this;have hR:R = true:=HY.out.2 ⟨HL.out.1,HL.out.2.1,HL.out.2.2.1,HL.out.2.2.2,HJi.out,HJ.out⟩;subst hR;go_wp2_with fail;go_ret;exact ⟨rfl,zqaa HB0.out HB.out⟩
theorem zqid (w:World) (x y:Int) (hx:I64 x) (hy:I64 y) :
  Calls Tryz.prog 76 #[.int .i64 x,.int .i64 y] w fun e w' => e = .returned (.tuple #[.int .i64 (if fitB (x + y) = true then x + y else 0),.bool (fitB (x + y))]) ∧ Below w.heap.size w w':=by
 obtain ⟨x0,x1⟩:=hx;obtain ⟨y0,y1⟩:=hy;have za:Sized 8 x:=sized8 (by omega) (by omega)
 have zb:Sized 8 y:=sized8 (by omega) (by omega)
 have zs:Sized 8 (x + y):=sized8 (by omega) (by omega)
 have HO1:=zh (fun w1 => zqji x w1 x0 x1)
 have HO2:=zh (fun w1 => zqji y w1 y0 y1)
 have NA:=zh (fun w1 u v (hu:IsNum w1 u x) (hv:IsNum w1 v y) => zqc3 u v x y 8 w1 hu hv za zb (by decide))
 have IS:=zh (fun w1 v (hv:IsNum w1 v (x + y)) => zqw2 v _ 8 w1 hv zs (by decide) (by decide))
 have II:=zh (fun w1 v (hv:IsNum w1 v (x + y)) (h:fitB (x + y) = true) => zqyw v _ w1 hv (by simp [fitB] at h; omega) (by simp [fitB] at h; omega))
 have HR:=zh (show (fitB (x + y) = true → (if fitB (x + y) = true then x + y else 0) = x + y) ∧ (fitB (x + y) = false → (if fitB (x + y) = true then x + y else 0) = 0) from ⟨fun h => by rw [if_pos h],fun h => by rw [if_neg (by rw [h]; decide)]⟩)
 clear za zb zs x0 x1 y0 y1;generalize (if fitB (x + y) = true then x + y else 0) = r at *
 generalize fitB (x + y) = ft at *;go_enter Tryz.func76,Tryz.ntmps76;go_wp2_with fail;refine (HO1.out _).mono ?_; rintro e w2 ⟨u,rfl,hu,hb2⟩;go_wp2_with fail;refine (HO2.out _).mono ?_; rintro e w3 ⟨v,rfl,hv,hb3⟩;have hu:=hu.below hb3;have hE:=zh (zqaa hb2 hb3);clear hb2 hb3;obtain ⟨xb,xp,xl,xc,rfl⟩:=hu.shape;obtain ⟨yb,yp,yl,yc,rfl⟩:=hv.shape;have HX:=zh hu;have HY:=zh hv;clear hu hv;go_wp2_with fail;refine (NA.out _ _ _ HX.out HY.out).mono ?_; rintro e w4 ⟨z,rfl,hz,hb⟩;have HB4:=zh (zqaa hE.out hb);obtain ⟨zb,zp,zl,zc,rfl⟩:=hz.shape;have hb5:=zqab w4 (.cells #[.bool zb,.slice zp zl zc] 115);have HZ:=zh (hz.below hb5);have HB5:=zh (zqaa HB4.out hb5);clear hb hz hE hb5;go_wp2_with fail;refine (IS.out _ _ HZ.out).mono ?_; rintro e w6 ⟨rfl,hb⟩;have HB6:=zh (zqaa HB5.out hb);have HZ6:=zh (HZ.out.below hb);have c0:w6.cell? ⟨w4.heap.size,0,none⟩ = some (.bool zb):=cell_later hb (by simp [go_sem])
 have c1:w6.cell? ⟨w4.heap.size,1,none⟩ = some (.slice zp zl zc):=cell_later hb (by simp [go_sem])
 clear hb;cases ft with
 | false =>
  have hr:=HR.out.2 rfl;subst hr;go_wp2_with fail;exact bodyPost_ret (v:=.tuple #[.int .i64 0,.bool false]) (by simp [results,Tryz.results76,go_sem]) rfl ⟨rfl,HB6.out⟩
 | true =>
  have hr:=HR.out.1 rfl;subst hr;have HI2:=zh (II.out _ _ HZ6.out rfl);go_wp2_with fail;refine (HI2.out).mono ?_; rintro e w7 ⟨rfl,hb⟩;have HB7:=zh (zqaa HB6.out hb);clear hb;go_wp2_with fail;exact bodyPost_ret (v:=.tuple #[.int .i64 (x + y),.bool true]) (by simp [results,Tryz.results76,go_sem]) rfl ⟨rfl,HB7.out⟩
end Go.Proofs.YtmnbljijnbhghaaGreatDoor
namespace Go.Proofs.YtmnbljijnbhghaaGreatDoor
set_option maxRecDepth 100000
open Go.RowKit
theorem zqvn {w:World} {k:Nat} {x y:Value} {T:TypeId} (h:w.heap[k]? = some (.cells #[x,y] T (0,0))):w.cell? ⟨k,0,none⟩ = some x ∧ w.cell? ⟨k,1,none⟩ = some y ∧ w.frozen? ⟨k,0,none⟩ = false ∧ w.frozen? ⟨k,1,none⟩ = false :=
 ⟨by simp [World.cell?,h],by simp [World.cell?,h],by simp [World.frozen?,h],by simp [World.frozen?,h]⟩
def DDivRel (a:List Int) (m:Nat) (out:List Int) (r:Int):Prop :=
 ∃ X Y,val a = valN a m + 1000 ^ m * X ∧ val out = valN a m + 1000 ^ m * Y ∧ X = 4294967296 * Y + r ∧ 0 ≤ r ∧ r < 4294967296 ∧ Dig out ∧ out.length = a.length ∧ ∀ j,j < m → out.getD j 0 = a.getD j 0
theorem DDivRel.start {a:List Int} (ha:Dig a):DDivRel a a.length a 0 :=
 ⟨0,0,by simp [val],by simp [val],by simp,by omega,by omega,ha,rfl,fun _ _ => rfl⟩
theorem DDivRel.step {a out:List Int} {r:Int} {m:Nat} (h:DDivRel a (m + 1) out r) (hm:m < a.length) (y:Int) (hy:out.getD m 0 = y) :
  DDivRel a m (out.set m ((r * 1000 + y) / 4294967296)) ((r * 1000 + y) % 4294967296):=by
 obtain ⟨X,Y,e1,e2,e3,e4,e5,e6,e7,e8⟩:=h;have hya:=e8 m (by omega)
 have hyr:=e6.getD m;rw [hy] at hya hyr;have q0:0 ≤ (r * 1000 + y) / 4294967296:=by omega
 have q1:(r * 1000 + y) / 4294967296 ≤ 999:=by omega
 have r0:0 ≤ (r * 1000 + y) % 4294967296:=by omega
 have r1:(r * 1000 + y) % 4294967296 < 4294967296:=by omega
 have hde:=Int.emod_add_mul_ediv (r * 1000 + y) 4294967296;generalize (r * 1000 + y) / 4294967296 = q at *;generalize (r * 1000 + y) % 4294967296 = s at *;refine ⟨y + 1000 * X,q + 1000 * Y,?_,?_,?_,r0,r1,e6.set q0 q1,by simpa using e7,fun j hj => ?_⟩
 ·rw [e1,valN,← hya,zqbs,Int.mul_add,Int.mul_comm y,Int.mul_assoc]; omega
 ·rw [zqkm (by omega),e2,valN,← hya,hy,zqbs,Int.mul_add,Int.sub_mul,Int.mul_comm y,Int.mul_comm q,Int.mul_assoc]; omega
 ·omega
 ·rw [zqbz (by omega)]; exact e8 j (by omega)
theorem DDivRel.stop {a out:List Int} {r:Int} (h:DDivRel a 0 out r):val out = val a / 4294967296 ∧ r = val a % 4294967296 ∧ Dig out ∧ out.length = a.length:=by
 obtain ⟨X,Y,e1,e2,e3,e4,e5,e6,e7,e8⟩:=h;simp [valN] at e1 e2;exact ⟨by omega,by omega,e6,e7⟩
def OfRel (z:Int) (out ds:List Int):Prop:=z = wv out + 4294967296 ^ out.length * val ds ∧ Wd out ∧ Dig ds ∧ Tidy ds ∧ (ds = [] → Tidy out)
theorem OfRel.start {z:Int} {ds:List Int} (hz:z = val ds) (hd:Dig ds) (ht:Tidy ds):OfRel z [] ds:=⟨by simp [zqn6,hz],Wd.nil,hd,ht,fun _ => .inl rfl⟩
theorem OfRel.next {z:Int} {out ds ds':List Int} (h:OfRel z out ds) (hne:ds ≠ []) (hv:val ds' = val ds / 4294967296) (hd:Dig ds') (ht:Tidy ds'):OfRel z (out ++ [val ds % 4294967296]) ds':=by
 obtain ⟨h1,h2,h3,h4,h5⟩:=h;have hr0:=Int.emod_nonneg (val ds) (show (4294967296:Int) ≠ 0 by decide)
 have hr1:=Int.emod_lt_of_pos (val ds) (show (0:Int) < 4294967296 by decide)
 have hw:=zqkp out (val ds % 4294967296);refine ⟨?_,?_,hd,ht,fun e => ?_⟩
 ·rw [hw,List.length_append,List.length_singleton,zqd9,hv,h1];generalize (4294967296:Int) ^ out.length = P;have k:=Int.emod_add_mul_ediv (val ds) 4294967296;have k2:P * val ds = P * (val ds % 4294967296 + 4294967296 * (val ds / 4294967296)):=by rw [k]
  rw [k2,Int.mul_add,← Int.mul_assoc,Int.mul_comm P (val ds % 4294967296)];omega
 ·intro x hx;rcases List.mem_append.1 hx with hx | hx
  ·exact h2 x hx
  ·simp at hx; omega
 ·subst e;have:val ds ≠ 0:=fun e0 => hne ((h4.zero h3).1 e0)
  rw [zqdy] at hv;exact .inr (by simp [List.getD]; omega)
theorem OfRel.stop {z:Int} {out:List Int} (h:OfRel z out []):wv out = z ∧ Wd out ∧ Tidy out:=by
 obtain ⟨h1,h2,h3,h4,h5⟩:=h;rw [zqdy] at h1;exact ⟨by omega,h2,h5 rfl⟩
theorem zqlt {s:Nat} {x:Int} (h:Sized s x) (k:Nat):Sized (s * k + 1) (x ^ k):=by
 have h1:x.natAbs ≤ 1000 ^ s:=by
  obtain ⟨h1,h2⟩:=h;have e:((1000 ^ s:Nat):Int) = (1000:Int) ^ s:=by rw [Int.natCast_pow]; rfl
  omega
 have h2:(x ^ k).natAbs = x.natAbs ^ k:=Int.natAbs_pow x k;have h3:x.natAbs ^ k ≤ (1000 ^ s) ^ k:=Nat.pow_le_pow_left h1 k;rw [← Nat.pow_mul] at h3;have h4:0 < 1000 ^ (s * k):=Nat.pow_pos (by decide)
 have h5:1000 ^ (s * k + 1) = 1000 ^ (s * k) * 1000:=Nat.pow_succ ..;have e:((1000 ^ (s * k + 1):Nat):Int) = (1000:Int) ^ (s * k + 1):=by rw [Int.natCast_pow]; rfl
 unfold Sized;omega
def Held2 (w:World) (R N M:Nat) (a b c d:Value) (w':World):Prop :=
 w'.cell? ⟨N,0,none⟩ = some a ∧ w'.cell? ⟨N,1,none⟩ = some b ∧ w'.cell? ⟨M,0,none⟩ = some c ∧ w'.cell? ⟨M,1,none⟩ = some d ∧ Kept w R 115 w' ∧ R ≠ N ∧ R ≠ M
theorem Held2.call {w w1 w2:World} {R N M:Nat} {a b c d:Value} (h:Held2 w R N M a b c d w1) (hb:Below w1.heap.size w1 w2):Held2 w R N M a b c d w2 :=
 ⟨cell_later hb h.1,cell_later hb h.2.1,cell_later hb h.2.2.1,cell_later hb h.2.2.2.1,h.2.2.2.2.1.call hb,h.2.2.2.2.2⟩
theorem Held2.drew {w w1:World} {R N M:Nat} {a b c d:Value} (h:Held2 w R N M a b c d w1):Held2 w R N M a b c d w1.drew:=h.call (Below.refl _ _).drew
theorem Held2.store {w w1:World} {R N M:Nat} {a b c d:Value} (h:Held2 w R N M a b c d w1) (u v:Value):Held2 w R N M a b c d ((w1.setCell ⟨R,0,none⟩ u).setCell ⟨R,1,none⟩ v):=by
 obtain ⟨h1,h2,h3,h4,h5,h6,h7⟩:=h;refine ⟨?_,?_,?_,?_,h5.store u v,h6,h7⟩
 ·rw [World.cell?_setCell_far _ _ _ _ h6,World.cell?_setCell_far _ _ _ _ h6]; exact h1
 ·rw [World.cell?_setCell_far _ _ _ _ h6,World.cell?_setCell_far _ _ _ _ h6]; exact h2
 ·rw [World.cell?_setCell_far _ _ _ _ h7,World.cell?_setCell_far _ _ _ _ h7]; exact h3
 ·rw [World.cell?_setCell_far _ _ _ _ h7,World.cell?_setCell_far _ _ _ _ h7]; exact h4
set_option maxHeartbeats 1000000 in
theorem zqjp (v:Value) (x i:Int) (w:World) (hv:IsNum w v x) (hi:i ≤ 0) :
  Calls Tryz.prog 165 #[v,.int .i64 i] w (MadeNum w 1):=by
 obtain ⟨b1,p1,l1,c1,rfl⟩:=hv.shape;have hk0:=zh (Kept.start (w.alloc (.cells #[.bool b1,.slice p1 l1 c1] 115)) (.bool false) (.slice none 0 0) 115);clear hv;go_enter Tryz.func165,Tryz.ntmps165;go_wp2_with fail;refine (zqch 1 _ (by decide) (by decide)).mono ?_; rintro e w4 ⟨q,rfl,hq,hb4⟩
 have hk:=hk0.out.call hb4;simp only [World.size_alloc] at hk;clear hb4 hk0;obtain ⟨rn,rp,rl,rc,rfl⟩:=hq.shape;obtain ⟨⟨x1,hx1⟩,⟨y1,hy1⟩,hf1,hf2⟩:=hk.cells;have hN:=hk.num hq;have hE:=(hk.store (.bool rn) (.slice rp rl rc)).1;clear hk hq;go_wp2_with fail;refine bodyPost_ret (v:=.agg #[.bool rn,.slice rp rl rc]) (by simp [results,Tryz.results165,go_sem,hx1,hy1]) rfl ⟨_,rfl,hN,?_⟩
 exact (zqab w _).trans (hE.mono (by simp))
theorem Kept.down {w w1 w2:World} {R:Nat} {T:TypeId} (h:Kept w1 R T w2) (hb:Below w.heap.size w w1):Kept w R T w2:=by
 obtain ⟨h1,h2,h3⟩:=h;exact ⟨hb.trans (h1.mono hb.size),by have:=hb.size; omega,h3⟩
theorem zqjo {w w1:World} {a b c d u v:Value} (hb:Below ((w.alloc (.cells #[a,b] 115)).alloc (.cells #[u,v] 115)).heap.size ((w.alloc (.cells #[a,b] 115)).alloc (.cells #[u,v] 115)) w1) :
  Held2 w (w.heap.size + 1) w.heap.size w1.heap.size a b c d (w1.alloc (.cells #[c,d] 115)):=by
 have hk:Kept w (w.heap.size + 1) 115 w1:=by
  have:=((Kept.start (w.alloc (.cells #[a,b] 115)) u v 115).call hb).down (zqab w _);simpa using this
 have hs:=hb.size;simp only [World.size_alloc] at hs;have h2:=zqab w1 (.cells #[c,d] 115);refine ⟨?_,?_,by simp [go_sem],by simp [go_sem],hk.call h2,by omega,by omega⟩
 ·exact cell_later h2 (cell_later hb (by simp [go_sem]))
 ·exact cell_later h2 (cell_later hb (by simp [go_sem]))
theorem zqnf {x:Int} {n:Nat} (h:n % 2 = 1):x ^ (n / 2) * x ^ (n / 2) * x = x ^ n:=by
 rw [← Int.pow_add,← Int.pow_succ]; congr 1; omega
theorem zql9 {x:Int} {n:Nat} (h:n % 2 = 0):x ^ (n / 2) * x ^ (n / 2) = x ^ n:=by
 rw [← Int.pow_add]; congr 1; omega
set_option maxHeartbeats 2000000 in
theorem zqtw (s:Nat) (k:Nat):∀ (v:Value) (x i:Int) (n:Nat) (w:World),n ≤ k → Hid (i = (n:Int)) → s * n + 2 ≤ 274877906944 → n ≤ 1099511627776 → IsNum w v x → Sized s x →
  Calls Tryz.prog 165 #[v,.int .i64 i] w (MadeNum w (x ^ n)):=by
 induction k with
 | zero =>
  intro v x i n w hn hi _ _ hv _;obtain rfl:n = 0:=by omega
  exact (zqjp v x i w hv (by have:=hi.out; omega)).mono (MadeNum.to (by simp))
 | succ k ih =>
  intro v x i n w hn hi hs hn2 hv hx
  by_cases h0:n = 0
  ·subst h0;exact (zqjp v x i w hv (by have:=hi.out; omega)).mono (MadeNum.to (by simp))
  ·have hi0:0 < i:=by have:=hi.out; omega
   have hi2:i ≤ 1099511627776:=by have:=hi.out; omega
   obtain ⟨b1,p1,l1,c1,rfl⟩:=hv.shape;have hsn:s * (n / 2) ≤ s * n:=Nat.mul_le_mul_left _ (by omega)
   have HP:=zh (fun w1 (hb:Below w.heap.size w w1) => ih _ x (i / 2) (n / 2) w1 (by omega) (zh (by have:=hi.out; omega)) (by omega) (by omega) (hv.below hb) hx)
   clear ih;have hsz:Sized (s * n + 2) (x ^ (n / 2)):=(zqlt hx (n / 2)).mono (by omega)
   have hn1:s ≤ s * n:=Nat.le_mul_of_pos_right s (by omega)
   have hxs:Sized (s * n + 2) x:=hx.mono (by omega)
   have hqq:Sized (s * n + 2) (x ^ (n / 2) * x ^ (n / 2)):=by
    rw [← Int.pow_add];refine (zqlt hx _).mono ?_;have:s * (n / 2 + n / 2) ≤ s * n:=Nat.mul_le_mul_left _ (by omega)
    omega
   have hm2:n % 2 = 1 ∨ n % 2 = 0:=by omega
   have HX:=zh hv;clear hv;have KM:=zh (fun w1 (u v:Value) (y z:Int) (hu:IsNum w1 u y) (hv:IsNum w1 v z) (hy:Sized (s * n + 2) y) (hz:Sized (s * n + 2) z) => zqpn u v y z _ w1 hu hv hy hz (by omega))
   rcases hm2 with hm | hm
   ·have hq:(i % 2 == 1) = true:=by have:=hi.out; simp; omega
    have HE:=zh (zqnf (x:=x) hm);clear hm hi;go_enter Tryz.func165,Tryz.ntmps165;go_wp2_with fail;refine (HP.out _ (zqba w _ _)).mono ?_; rintro e w1 ⟨h,rfl,hh,hb⟩;obtain ⟨b3,p3,l3,c3,rfl⟩:=hh.shape;have hH:=zh (zqjo (c:=.bool b3) (d:=.slice p3 l3 c3) hb);have hbw:=zh ((zqba w _ _).trans (hb.mono (by simp; omega)))
    have hhn:=zh (hh.below (zqab w1 (.cells #[.bool b3,.slice p3 l3 c3] 115)));have hxn:=zh ((HX.out.below hbw.out).below (zqab w1 (.cells #[.bool b3,.slice p3 l3 c3] 115)));clear hh hb HP HX;go_wp2_with fail;have hk:=hH.out.drew;go_region_held3 (fun w' => w'.cell? ⟨w.heap.size,0,none⟩ = some (.bool b1) ∧ w'.cell? ⟨w.heap.size,1,none⟩ = some (.slice p1 l1 c1) ∧ w'.cell? ⟨w1.heap.size,0,none⟩ = some (.bool b3) ∧ w'.cell? ⟨w1.heap.size,1,none⟩ = some (.slice p3 l3 c3) ∧ Kept w (w.heap.size + 1) 115 w' ∧ w.heap.size + 1 ≠ w.heap.size ∧ w.heap.size + 1 ≠ w1.heap.size)
     (first | exact hk | exact hk.store _ _)
     (first
      | (go_at_call_of 102 (Value.bool b3); refine (KM.out _ _ _ _ _ (hhn.out.below (Below.refl _ _).drew) (hhn.out.below (Below.refl _ _).drew) hsz hsz).mono ?_; rintro e w2 ⟨q,rfl,hq2,hb2⟩; have hk:=hk.call hb2)
      | (go_at_call_of 102 q; refine (KM.out _ _ _ _ _ hq2 ((hxn.out.below (Below.refl _ _).drew).below hb2) hqq hxs).mono ?_; rintro e w3 ⟨r,rfl,hr,hb3⟩; have hk:=hk.call hb3; obtain ⟨rn,rp,rl,rc,rfl⟩:=hr.shape; obtain ⟨⟨x1,hx1⟩,⟨y1,hy1⟩,hf1,hf2⟩:=hk.2.2.2.2.1.cells))
    have hN:=hk.2.2.2.2.1.num hr;have hE:=(hk.2.2.2.2.1.store (.bool rn) (.slice rp rl rc)).1;rw [HE.out] at hN;clear hk hr;go_wp2_with fail;exact bodyPost_ret (v:=.agg #[.bool rn,.slice rp rl rc]) (by simp [results,Tryz.results165,go_sem,hx1,hy1]) rfl ⟨_,rfl,hN,hE⟩
   ·have hq:(i % 2 == 1) = false:=by have:=hi.out; simp; omega
    have HE:=zh (zql9 (x:=x) hm);clear hm hi;go_enter Tryz.func165,Tryz.ntmps165;go_wp2_with fail;refine (HP.out _ (zqba w _ _)).mono ?_; rintro e w1 ⟨h,rfl,hh,hb⟩;obtain ⟨b3,p3,l3,c3,rfl⟩:=hh.shape;have hH:=zh (zqjo (c:=.bool b3) (d:=.slice p3 l3 c3) hb);have hbw:=zh ((zqba w _ _).trans (hb.mono (by simp; omega)))
    have hhn:=zh (hh.below (zqab w1 (.cells #[.bool b3,.slice p3 l3 c3] 115)));have hxn:=zh ((HX.out.below hbw.out).below (zqab w1 (.cells #[.bool b3,.slice p3 l3 c3] 115)));clear hh hb HP HX;go_wp2_with fail;have hk:=hH.out;refine (KM.out _ _ _ _ _ hhn.out hhn.out hsz hsz).mono ?_; rintro e w2 ⟨r,rfl,hr,hb2⟩;have hk:=hk.call hb2;obtain ⟨rn,rp,rl,rc,rfl⟩:=hr.shape;obtain ⟨⟨x1,hx1⟩,⟨y1,hy1⟩,hf1,hf2⟩:=hk.2.2.2.2.1.cells;have hN:=hk.2.2.2.2.1.num hr;have hE:=(hk.2.2.2.2.1.store (.bool rn) (.slice rp rl rc)).1;rw [HE.out] at hN;clear hk hr;go_wp2_with fail;exact bodyPost_ret (v:=.agg #[.bool rn,.slice rp rl rc]) (by simp [results,Tryz.results165,go_sem,hx1,hy1]) rfl ⟨_,rfl,hN,hE⟩
end Go.Proofs.YtmnbljijnbhghaaGreatDoor
