/- Contracts that the law leans on: Refg Mul Divm Natb. -/
import Derived.Deep.RegionLawGrows
import Derived.WalkKit
import Derived.WalkSpells
import Derived.WalkLawsBesides
import Derived.WalkSmall
import Derived.Deep.QuietTactic
import Derived.BigQuiet
import Derived.Lib.Hide
import Derived.OwnWalk
import Derived.Test.YtmnbljijnbhghaaGreatDoorProg
import Derived.Test.YtmnbljijnbhghaaGreatDoorPt02
import Derived.Test.YtmnbljijnbhghaaGreatDoorPt03
namespace Go.Proofs.YtmnbljijnbhghaaGreatDoor
set_option maxRecDepth 100000
open Go.RowKit
theorem IsNum.shape {w:World} {v:Value} {z:Int} (h:IsNum w v z):∃ b p l c,v = .agg #[.bool b,.slice p l c]:=by
 obtain ⟨b,s,d,rfl,⟨p,c,rfl,-⟩,-⟩:=h;exact ⟨b,p,_,c,rfl⟩
theorem Sized.neg {n:Nat} {z:Int} (h:Sized n z):Sized n (-z):=⟨by have:=h.2; omega,by have:=h.1; omega⟩
theorem Sized.mono {m n:Nat} {z:Int} (h:Sized m z) (hm:m ≤ n):Sized n z:=by
 have:=zqfe hm;exact ⟨by have:=h.1; omega,by have:=h.2; omega⟩
theorem sized8 {z:Int} (h1:-999999999999999999999999 ≤ z) (h2:z ≤ 999999999999999999999999):Sized 8 z:=by
 have h3:(1000:Int) ^ 8 = 1000000000000000000000000:=by decide
 exact ⟨by omega,by omega⟩
theorem Kept.start (w:World) (x y:Value) (T:TypeId):Kept w w.heap.size T (w.alloc (.cells #[x,y] T)):=⟨zqab w _,Nat.le_refl _,x,y,heap_alloc_new w _⟩
set_option maxHeartbeats 1000000 in
theorem zqji (x:Int) (w:World) (h1:-9223372036854775808 ≤ x) (h2:x ≤ 9223372036854775807) :
  Calls Tryz.prog 101 #[.int .i64 x] w (MadeNum w x):=by
 have hk0:=zh (Kept.start w (.bool false) (.slice none 0 0) 115)
 by_cases h0:x < 0
 ·have hA:=zh (fun w1 => zqch (-(x + 1)) w1 (by omega) (by omega))
  have hO:=zh (fun w1 => zqch 1 w1 (by omega) (by omega))
  have hS:=zh (fun w1 r s (hr:IsNum w1 r (-(x + 1))) (hs:IsNum w1 s 1) => zqc3 r s _ _ 8 w1 hr hs (sized8 (by omega) (by omega)) (sized8 (by omega) (by omega)) (by omega))
  have hT:=zh (fun w1 r (hr:IsNum w1 r (-(x + 1) + 1)) => (zqpm r _ 8 w1 hr (sized8 (by omega) (by omega)) (by omega)).mono (MadeNum.to (z':=x) (by omega)))
  go_enter Tryz.func101,Tryz.ntmps101;go_wp2_with fail;refine (hA.out _).mono ?_; rintro e w1 ⟨r,rfl,hr,hb⟩;have hk:=hk0.out.call hb;go_wp2_with fail;refine (hO.out _).mono ?_; rintro e w2 ⟨s,rfl,hs,hb2⟩;have hk:=hk.call hb2;have hr:=hr.below hb2;go_wp2_with fail;refine (hS.out _ _ _ hr hs).mono ?_; rintro e w3 ⟨t,rfl,ht,hb3⟩;have hk:=hk.call hb3;clear hr hs hb hb2;go_wp2_with fail;refine (hT.out _ _ ht).mono ?_; rintro e w4 ⟨q,rfl,hq,hb4⟩;have hk:=hk.call hb4;clear ht hb3 hb4 hk0;obtain ⟨rn,rp,rl,rc,rfl⟩:=hq.shape;obtain ⟨⟨x1,hx1⟩,⟨y1,hy1⟩,hf1,hf2⟩:=hk.cells;have hN:=hk.num hq;have hE:=(hk.store (.bool rn) (.slice rp rl rc)).1;clear hk hq;go_wp2_with fail;exact bodyPost_ret (v:=.agg #[.bool rn,.slice rp rl rc]) (by simp [results,Tryz.results101,go_sem,hx1,hy1]) rfl ⟨_,rfl,hN,hE⟩
 ·have hA:=zh (fun w1 => zqch x w1 (by omega) (by omega))
  go_enter Tryz.func101,Tryz.ntmps101;go_wp2_with fail;refine (hA.out _).mono ?_; rintro e w4 ⟨q,rfl,hq,hb4⟩;have hk:=hk0.out.call hb4;clear hb4 hk0;obtain ⟨rn,rp,rl,rc,rfl⟩:=hq.shape;obtain ⟨⟨x1,hx1⟩,⟨y1,hy1⟩,hf1,hf2⟩:=hk.cells;have hN:=hk.num hq;have hE:=(hk.store (.bool rn) (.slice rp rl rc)).1;clear hk hq;go_wp2_with fail;exact bodyPost_ret (v:=.agg #[.bool rn,.slice rp rl rc]) (by simp [results,Tryz.results101,go_sem,hx1,hy1]) rfl ⟨_,rfl,hN,hE⟩
theorem zqba (w:World) (o p:Obj):Below w.heap.size w ((w.alloc o).alloc p):=(zqab w o).alloc (by simp) p
def Compared (w:World) (c:Int) (e:Ending) (w':World):Prop:=e = .returned (.int .i64 c) ∧ Below w.heap.size w w'
set_option maxHeartbeats 1000000 in
theorem zqke (u v:Value) (x y:Int) (n:Nat) (w:World) (hu:IsNum w u x) (hv:IsNum w v y) (hx:Sized n x) (hy:Sized n y) (hn:n ≤ 1099511627770) :
  Calls Tryz.prog 135 #[u,v] w (Compared w (cmpI x y)):=by
 obtain ⟨b1,s1,d1,rfl,i1,-,g1,y1,n1,rfl⟩:=hu;obtain ⟨b2,s2,d2,rfl,i2,-,g2,y2,n2,rfl⟩:=hv;have l1:=zqa1 g1 y1 hx;have l2:=zqa1 g2 y2 hy;have r1:=(zqa7 g1).1;have r2:=(zqa7 g2).1;have hL:=zh (fun w1 (hb:Below w.heap.size w w1) => zqc0 s1 s2 d1 d2 w1 (i1.below hb) (i2.below hb) g1 g2 (by omega) (by omega))
 have hR:=zh (fun w1 (hb:Below w.heap.size w w1) => zqc0 s2 s1 d2 d1 w1 (i2.below hb) (i1.below hb) g2 g1 (by omega) (by omega))
 have q1:b1 = true → 0 < val d1:=fun h => y1.pos g1 (n1 h)
 have q2:b2 = true → 0 < val d2:=fun h => y2.pos g2 (n2 h)
 obtain ⟨p1,c1,rfl,-,-⟩:=i1;obtain ⟨p2,c2,rfl,-,-⟩:=i2;have Q1:=zh q1;have Q2:=zh q2;clear hx hy y1 y2 n1 n2 q1 q2;have hb0:=zh (zqba w (.cells #[.bool b1,.slice p1 d1.length c1] 115) (.cells #[.bool b2,.slice p2 d2.length c2] 115));cases b1 <;> cases b2
 ·go_enter Tryz.func135,Tryz.ntmps135;go_wp2_with fail;refine (hL.out _ hb0.out).mono ?_; rintro e w' ⟨rfl,rfl⟩;go_wp2_with fail;go_ret;exact ⟨zqar (by simp [signed]),hb0.out⟩
 ·have e:=zh (zqg1 (x:=val d1) (y:=-val d2) (by have:=Q2.out rfl; omega))
  go_enter Tryz.func135,Tryz.ntmps135;go_wp2_with fail;go_ret;exact ⟨zqar (by simp [signed,e.out]),hb0.out⟩
 ·have e:=zh (zqdu (x:=-val d1) (y:=val d2) (by have:=Q1.out rfl; omega))
  go_enter Tryz.func135,Tryz.ntmps135;go_wp2_with fail;go_ret;exact ⟨zqar (by simp [signed,e.out]),hb0.out⟩
 ·go_enter Tryz.func135,Tryz.ntmps135;go_wp2_with fail;refine (hR.out _ hb0.out).mono ?_; rintro e w' ⟨rfl,rfl⟩;go_wp2_with fail;go_ret;exact ⟨zqar (by simp only [signed,cond_true]; unfold cmpI; split <;> split <;> (try split) <;> (try split) <;> omega),hb0.out⟩
set_option maxRecDepth 100000
open Go.RowKit
def Horner (a:List Int) (k:Nat) (x:Int):Prop:=val a = valN a k + 1000 ^ k * x ∧ 0 ≤ x
theorem Horner.step {a:List Int} {m:Nat} {x:Int} (hd:Dig a) (h:Horner a (m + 1) x) (y:Int) (hy:a.getD m 0 = y):Horner a m (x * 1000 + y):=by
 obtain ⟨h1,h2⟩:=h;have h3:=hd.getD m;rw [hy] at h3;refine ⟨?_,by omega⟩
 rw [valN,zqbs,hy] at h1;have e1:1000 ^ m * 1000 * x = 1000 ^ m * (x * 1000):=by rw [Int.mul_assoc,Int.mul_comm 1000 x]
 have e2:1000 ^ m * (x * 1000 + y) = 1000 ^ m * (x * 1000) + 1000 ^ m * y:=Int.mul_add _ _ _;have e3:y * 1000 ^ m = 1000 ^ m * y:=Int.mul_comm _ _;omega
theorem Horner.le {a:List Int} {k:Nat} {x:Int} (hd:Dig a) (h:Horner a k x):x ≤ val a:=by
 obtain ⟨h1,h2⟩:=h;have h3:=(zqb4 hd k).1;have h4:1 * x ≤ 1000 ^ k * x:=Int.mul_le_mul_of_nonneg_right (by have:=p_pos k; omega) h2
 omega
set_option maxHeartbeats 1000000 in
theorem zqnb (v:Value) (z:Int) (w:World) (hv:IsNum w v z) (h1:-18446744073709551616 < z) (h2:z < 18446744073709551616) :
  Calls Tryz.prog 163 #[v] w fun e w' => e = .returned (.int .u64 (z.natAbs:Int)) ∧ Below w.heap.size w w':=by
 obtain ⟨b1,s1,a,rfl,i1,-,g1,y1,-,rfl⟩:=hv;have hs8:Sized 8 (signed b1 (val a)):=sized8 (by omega) (by omega)
 have la:=zqa1 (n:=8) g1 y1 hs8;have hva:val a < 18446744073709551616:=by cases b1 <;> simp [signed] at h1 h2 <;> omega
 have hva0:=(zqa7 g1).1;have hab:Hid (((signed b1 (val a)).natAbs:Int) = val a):=zh (by cases b1 <;> simp [signed] <;> omega)
 have hi:=zh (i1.below (zqab w (.cells #[.bool b1,s1] 115)));have hbel:=zh (zqab w (.cells #[.bool b1,s1] 115));obtain ⟨p1,c1,rfl,hcap,-⟩:=i1;have HD:=zh g1;have HV:=zh hva;clear h1 h2 y1 g1 hva hs8;go_enter Tryz.func163,Tryz.ntmps163;go_wp2_with fail;go_loop [3,4] (fun x i => ∃ (k:Nat) (y t:Int),Hid (t = (k:Int) - 1) ∧ -1 ≤ t ∧ t ≤ 8 ∧ k ≤ a.length ∧ x = .int .u64 y ∧ i = .int .i64 t ∧ Hid (Horner a k y)) (fun _ i => (intOf i + 1).toNat)
 case atStart => exact ⟨a.length,0,_,zh rfl,by omega,by omega,Nat.le_refl _,rfl,rfl,zh ⟨by simp [val],Int.le_refl _⟩⟩
 case round =>
  obtain ⟨k,y,t,ht,ht1,ht2,hk,rfl,rfl,hH⟩:=hrel
  by_cases h0:0 ≤ t
  ·obtain ⟨m,rfl⟩:∃ m,k = m + 1:=⟨k - 1,by have:=ht.out; omega⟩
   obtain rfl:t = (m:Int):=by have:=ht.out; omega
   have hy0:=hH.out.2;have hst:=zh (fun (d:Int) (hd:a.getD m 0 = d) => hH.out.step HD.out d hd)
   have hdd:=HD.out.getD m;obtain ⟨b,off,hap,hb,hcell⟩:=hi.out.cell (i:=m) (by omega)
   subst hap;generalize hd:a.getD m 0 = d at *;have hst2:=zh (hst.out d rfl);have hle:=hst2.out.le HD.out;have hlt:=HV.out;clear hst hd hH;obtain ⟨d1,d2⟩:=hdd;have hb1:y * 1000 + d ≤ 18446744073709551615:=by omega
   have hb2:0 ≤ y * 1000:=by omega
   clear hle hlt hi;go_wp2_with fail;go_round
   case rel => exact ⟨m,y * 1000 + d,m - 1,zh rfl,by omega,by omega,by omega,rfl,rfl,hst2⟩
   case measure => simp [intOf]
  ·obtain rfl:k = 0:=by have:=ht.out; omega
   have hE:Hid (val a = y):=zh (by have:=hH.out.1; simp [valN] at this; exact this)
   clear hH hi;go_wp2_with fail;go_ret;exact ⟨zqar (by rw [hab.out,hE.out]),hbel.out⟩
def Box1 (w:World) (N:Nat) (a b:Value) (w':World):Prop:=w'.cell? ⟨N,0,none⟩ = some a ∧ w'.cell? ⟨N,1,none⟩ = some b ∧ Below w.heap.size w w'
theorem Box1.call {w w1 w2:World} {N:Nat} {a b:Value} (h:Box1 w N a b w1) (hb:Below w1.heap.size w1 w2):Box1 w N a b w2 :=
 ⟨cell_later hb h.1,cell_later hb h.2.1,h.2.2.trans (hb.mono h.2.2.size)⟩
theorem Box1.drew {w w1:World} {N:Nat} {a b:Value} (h:Box1 w N a b w1):Box1 w N a b w1.drew:=h.call (Below.refl _ _).drew
theorem Box1.start (w:World) (a b:Value) (T:TypeId):Box1 w w.heap.size a b (w.alloc (.cells #[a,b] T)):=⟨by simp [go_sem],by simp [go_sem],zqab w _⟩
set_option maxHeartbeats 1000000 in
theorem zqw2 (v:Value) (z:Int) (n:Nat) (w:World) (hv:IsNum w v z) (hz:Sized n z) (h8:8 ≤ n) (hn:n ≤ 1099511627770) :
  Calls Tryz.prog 128 #[v] w fun e w' => e = .returned (.bool (fitB z)) ∧ Below w.heap.size w w':=by
 obtain ⟨b1,p1,l1,c1,rfl⟩:=hv.shape;have hC:=zh (fun w1 r y (hb:Below w.heap.size w w1) (hr:IsNum w1 r y) (hy:Sized 8 y) => zqke _ r z y n w1 (hv.below hb) hr hz (hy.mono h8) hn)
 have hB:=zh (Box1.start w (.bool b1) (.slice p1 l1 c1) 115);clear hv hz
 by_cases hlo:-9223372036854775808 ≤ z
 ·have k1:0 ≤ cmpI z (-9223372036854775808):=zqcx.2 hlo;have e2:Hid (fitB z = decide (cmpI z 9223372036854775807 ≤ 0)):=zh (by
   by_cases h:z ≤ 9223372036854775807
   ·rw [zqh3 hlo h,decide_eq_true (zqpc.2 h)]
   ·rw [zqg2 (by omega),decide_eq_false (fun e => h (zqpc.1 e))])
  go_enter Tryz.func128,Tryz.ntmps128;go_wp2_with fail;have hk:=hB.out.drew;go_region_held3 (fun w' => w'.cell? ⟨w.heap.size,0,none⟩ = some (.bool b1) ∧ w'.cell? ⟨w.heap.size,1,none⟩ = some (.slice p1 l1 c1) ∧ Below w.heap.size w w')
   (exact hk)
   (first
    | (go_at_call 101; refine (zqji _ _ (by decide) (by decide)).mono ?_; rintro e w1 ⟨r,rfl,hr,hb⟩; have hk:=hk.call hb)
    | (go_at_call 135; refine (hC.out _ _ _ hk.2.2 hr (sized8 (by decide) (by decide))).mono ?_; rintro e w2 ⟨rfl,hb2⟩; have hk:=hk.call hb2; clear hr))
  have hE:=hk.2.2;clear hk;go_wp2_with fail;go_ret;exact ⟨zqca e2.out.symm,hE⟩
 ·have k1:¬ 0 ≤ cmpI z (-9223372036854775808):=fun e => hlo (zqcx.1 e)
  have k2:decide (0 ≤ cmpI z (-9223372036854775808)) = false:=decide_eq_false k1;have e2:Hid (fitB z = false):=zh (zqg2 (by omega))
  go_enter Tryz.func128,Tryz.ntmps128;go_wp2_with fail;have hk:=hB.out.drew;go_region_with (first
    | (go_at_call 101; refine (zqji _ _ (by decide) (by decide)).mono ?_; rintro e w1 ⟨r,rfl,hr,hb⟩; have hk:=hk.call hb; have hk1:=hk.1; have hk2:=hk.2.1)
    | (go_at_call 135; refine (hC.out _ _ _ hk.2.2 hr (sized8 (by decide) (by decide))).mono ?_; rintro e w2 ⟨rfl,hb2⟩; have hk:=hk.call hb2; clear hr))
  all_goals
   have hE:=hk.2.2;clear hk;go_wp2_with fail;go_ret;exact ⟨zqca e2.out.symm,hE⟩
set_option maxRecDepth 100000
open Go.RowKit
set_option maxHeartbeats 1000000 in
theorem zqyw (v:Value) (z:Int) (w:World) (hv:IsNum w v z) (h1:-9223372036854775808 ≤ z) (h2:z ≤ 9223372036854775807) :
  Calls Tryz.prog 129 #[v] w fun e w' => e = .returned (.int .i64 z) ∧ Below w.heap.size w w':=by
 have hs:Sized 8 z:=sized8 (by omega) (by omega)
 obtain ⟨b1,s1,d1,rfl,i1,t1,g1,y1,n1,hz⟩:=id hv;have hneg:b1 = true ↔ z < 0:=by
  have:=(zqa7 g1).1
  constructor
  ·intro e; subst e; have:=y1.pos g1 (n1 rfl); simp [signed] at hz; omega
  ·intro e; cases b1
   ·simp [signed] at hz; omega
   ·rfl
 obtain ⟨p1,c1,rfl,-,-⟩:=i1;clear hz n1 y1 t1;have hA:=zh (fun w1 r (hb:Below w.heap.size w w1) (hr:IsNum w1 r 1) => zqc3 _ r z 1 8 w1 (hv.below hb) hr hs (sized8 (by decide) (by decide)) (by decide))
 have hU:=zh (fun w1 r y (hr:IsNum w1 r y) (q1:-18446744073709551616 < y) (q2:y < 18446744073709551616) => zqnb r y w1 hr q1 q2)
 have hW:=zh (fun w1 (hb:Below w.heap.size w w1) => zqnb _ z w1 (hv.below hb) (by omega) (by omega))
 have hB:=zh (Box1.start w (.bool b1) (.slice p1 d1.length c1) 115);clear hv hs;cases b1
 ·have hz0:0 ≤ z:=by have:=hneg.2; simp at this; omega
  have hab:(z.natAbs:Int) = z:=by omega
  clear hneg;have hk:=hB.out;go_enter Tryz.func129,Tryz.ntmps129;go_wp2_with fail;refine (hW.out _ hk.2.2).mono ?_; rintro e w1 ⟨rfl,hb⟩;have hk:=hk.call hb;rw [hab];have hE:=hk.2.2;clear hk hb hab;go_wp2_with fail;go_ret;exact ⟨rfl,hE⟩
 ·have hz0:z < 0:=hneg.1 rfl;clear hneg;have hab:Hid ((((z + 1).natAbs:Nat):Int) = -(z + 1)):=zh (by omega)
  go_enter Tryz.func129,Tryz.ntmps129;go_wp2_with fail;have hk:=hB.out.drew;go_region_held3 (fun w' => w'.cell? ⟨w.heap.size,0,none⟩ = some (.bool true) ∧ w'.cell? ⟨w.heap.size,1,none⟩ = some (.slice p1 d1.length c1) ∧ Below w.heap.size w w')
   (exact hk)
   (first
    | (go_at_call 134; refine (zqch 1 _ (by decide) (by decide)).mono ?_; rintro e w1 ⟨r,rfl,hr,hb⟩; have hk:=hk.call hb)
    | (go_at_call 77; refine (hA.out _ _ hk.2.2 hr).mono ?_; rintro e w2 ⟨q,rfl,hq,hb2⟩; have hk:=hk.call hb2)
    | (go_at_call 163; refine (hU.out _ _ _ hq (by omega) (by omega)).mono ?_; rintro e w3 ⟨rfl,hb3⟩; have hk:=hk.call hb3))
  have hE:=hk.2.2;clear hk;go_wp2_with fail;go_ret;exact ⟨zqar (by rw [hab.out]; simp only [IntKind.wrap_i64]; omega),hE⟩
end Go.Proofs.YtmnbljijnbhghaaGreatDoor
namespace Go.Proofs.YtmnbljijnbhghaaGreatDoor
set_option maxRecDepth 100000
open Go.RowKit
theorem zqcz {l:List Int} {j i:Nat} {x:Int} (h:j < l.length):(l.set j x).getD i 0 = if i = j then x else l.getD i 0:=by
 simp only [List.getD,List.getElem?_set]
 by_cases e:j = i
 ·subst e; simp [h]
 ·have:¬ i = j:=fun q => e q.symm
  simp [e,this]
theorem zqxy {l:List Int} {j:Nat} {x:Int} (h:j < l.length) (n:Nat):valN (l.set j x) n = valN l n + if j < n then (x - l.getD j 0) * 1000 ^ j else 0:=by
 induction n with
 | zero => simp [valN]
 | succ n ih =>
  rw [valN,valN,ih,zqcz h]
  by_cases e:n = j
  ·subst e; simp [Int.sub_mul]; omega
  ·by_cases hl:j < n
   ·have:j < n + 1:=by omega
    simp [hl,this,e]; omega
   ·have:¬ j < n + 1:=by omega
    simp [hl,this,e]
theorem zqkm {l:List Int} {j:Nat} {x:Int} (h:j < l.length):val (l.set j x) = val l + (x - l.getD j 0) * 1000 ^ j:=by
 rw [val,List.length_set,zqxy h,if_pos h]; rfl
theorem Dig.set {l:List Int} (hd:Dig l) {j:Nat} {x:Int} (h1:0 ≤ x) (h2:x ≤ 999):Dig (l.set j x):=by
 intro y hy;rcases List.mem_or_eq_of_mem_set hy with h | h
 ·exact hd y h
 ·subst h; exact ⟨h1,h2⟩
def MulOut (a b:List Int) (i:Nat) (out:List Int):Prop:=val out = valN a i * val b ∧ Dig out ∧ out.length = a.length + b.length + 1 ∧ ∀ j,i + b.length ≤ j → out.getD j 0 = 0
def MulIn (a b:List Int) (i k:Nat) (out:List Int) (c:Int):Prop :=
 val out + c * 1000 ^ (i + k) = valN a i * val b + a.getD i 0 * valN b k * 1000 ^ i ∧ Dig out ∧ out.length = a.length + b.length + 1 ∧ (∀ j,i + b.length ≤ j → out.getD j 0 = 0) ∧ 0 ≤ c ∧ c ≤ 999
theorem MulOut.enter {a b out:List Int} {i:Nat} (h:MulOut a b i out):MulIn a b i 0 out 0:=by
 obtain ⟨h1,h2,h3,h4⟩:=h;exact ⟨by simp [valN,h1],h2,h3,h4,by omega,by omega⟩
theorem zqmb (n:Nat):val (List.replicate n (0:Int)) = 0:=by
 have h:val (List.replicate n (0:Int)) = val []:=zqc6 (fun i => by simp [List.getD,List.getElem?_replicate]; split <;> simp)
 rw [h]; rfl
theorem MulOut.start (a b:List Int):MulOut a b 0 (List.replicate (a.length + b.length + 1) 0):=by
 refine ⟨by simp [valN,zqmb],fun x hx => ?_,by simp,fun j _ => ?_⟩
 ·have:=List.eq_of_mem_replicate hx; omega
 ·simp [List.getD,List.getElem?_replicate]; split <;> simp
theorem zqjg {x y:Int} (h1:0 ≤ x) (h2:x ≤ 999) (h3:0 ≤ y) (h4:y ≤ 999):0 ≤ x * y ∧ x * y ≤ 998001:=by
 refine ⟨Int.mul_nonneg h1 h3,?_⟩
 calc x * y ≤ 999 * y:=Int.mul_le_mul_of_nonneg_right h2 h3
  _ ≤ 999 * 999:=Int.mul_le_mul_of_nonneg_left h4 (by omega)
theorem MulIn.step {a b out:List Int} {i k:Nat} {c:Int} (h:MulIn a b i k out c) (ha:Dig a) (hb:Dig b) (hi:i < a.length) (hk:k < b.length) (o x y:Int) (ho:out.getD (i + k) 0 = o) (hx:a.getD i 0 = x) (hy:b.getD k 0 = y) :
  MulIn a b i (k + 1) (out.set (i + k) ((o + x * y + c) % 1000)) ((o + x * y + c) / 1000):=by
 obtain ⟨h1,h2,h3,h4,h5,h6⟩:=h;have hj:i + k < out.length:=by omega
 have o1:=h2.getD (i + k);have x1:=ha.getD i;have y1:=hb.getD k;rw [ho] at o1;rw [hx] at x1;rw [hy] at y1;have hm:=zqjg x1.1 x1.2 y1.1 y1.2;refine ⟨?_,h2.set (by omega) (by omega),by simp [h3],fun j hj2 => ?_,by omega,by omega⟩
 ·have e0:i + (k + 1) = (i + k) + 1:=by omega
  rw [zqkm hj,ho,valN,hy,e0,zqbs,hx];rw [hx] at h1;have e1:=zqfl (o + x * y + c) (1000 ^ (i + k));have e2:(o + x * y + c) * 1000 ^ (i + k) = o * 1000 ^ (i + k) + x * y * 1000 ^ (i + k) + c * 1000 ^ (i + k):=by rw [Int.add_mul,Int.add_mul]
  have e3:((o + x * y + c) % 1000 - o) * 1000 ^ (i + k) = (o + x * y + c) % 1000 * 1000 ^ (i + k) - o * 1000 ^ (i + k):=Int.sub_mul _ _ _;have e4:x * (valN b k + y * 1000 ^ k) * 1000 ^ i = x * valN b k * 1000 ^ i + x * y * 1000 ^ (i + k):=by
   rw [Int.mul_add,Int.add_mul,Int.pow_add,Int.mul_comm (1000 ^ i:Int) (1000 ^ k),← Int.mul_assoc x y (1000 ^ k),Int.mul_assoc (x * y)]
  omega
 ·rw [zqcz hj,if_neg (by omega)]; exact h4 j hj2
theorem MulIn.leave {a b out:List Int} {i:Nat} {c:Int} (h:MulIn a b i b.length out c) (hi:i < a.length):MulOut a b (i + 1) (out.set (i + b.length) c):=by
 obtain ⟨h1,h2,h3,h4,h5,h6⟩:=h;have hj:i + b.length < out.length:=by omega
 refine ⟨?_,h2.set h5 h6,by simp [h3],fun j hj2 => ?_⟩
 ·rw [zqkm hj,h4 _ (Nat.le_refl _),valN];have e1:(c - 0) * 1000 ^ (i + b.length) = c * 1000 ^ (i + b.length):=by simp
  have e2:(valN a i + a.getD i 0 * 1000 ^ i) * val b = valN a i * val b + a.getD i 0 * valN b b.length * 1000 ^ i:=by
   rw [Int.add_mul,Int.mul_assoc,Int.mul_assoc,Int.mul_comm (1000 ^ i:Int)]; rfl
  omega
 ·rw [zqcz hj,if_neg (by omega)]; exact h4 j (by omega)
theorem MulOut.stop {a b out:List Int} (h:MulOut a b a.length out):val out = val a * val b:=h.1
def MulState (w:World) (x0 x1 y0 y1:Value) (out:List Int) (wr:World):Prop :=
 Boxes w w.heap.size x0 x1 y0 y1 wr ∧ wr.ownsRow (w.heap.size + 1 + 1 + 1) 3 1 (.slice (some ⟨w.heap.size + 1 + 1 + 1,0,none⟩) out.length out.length) out.length (out.map (Value.int .i64))
theorem MulState.drewN {w wr:World} {x0 x1 y0 y1:Value} {out:List Int} (h:MulState w x0 x1 y0 y1 out wr) (n:Nat):MulState w x0 x1 y0 y1 out (wr.drewN n):=by
 obtain ⟨h1,h2⟩:=h;exact ⟨h1.call (below_drewN (Below.refl _ _) n),h2⟩
theorem MulState.set {w wr:World} {x0 x1 y0 y1:Value} {out:List Int} (h:MulState w x0 x1 y0 y1 out wr) (j:Nat) (x:Int):MulState w x0 x1 y0 y1 (out.set j x) (wr.setCell ⟨w.heap.size + 1 + 1 + 1,j,none⟩ (.int .i64 x)):=by
 obtain ⟨⟨h1,h2,h3,h4,h5,h6,u,v,h7⟩,h8⟩:=h;refine ⟨⟨?_,?_,?_,?_,?_,h6,u,v,?_⟩,?_⟩
 ·rw [World.cell?_setCell_far _ _ _ _ (by simp <;> omega)]; exact h1
 ·rw [World.cell?_setCell_far _ _ _ _ (by simp <;> omega)]; exact h2
 ·rw [World.cell?_setCell_far _ _ _ _ (by simp <;> omega)]; exact h3
 ·rw [World.cell?_setCell_far _ _ _ _ (by simp <;> omega)]; exact h4
 ·exact h5.setCell (by simp <;> omega) _
 ·rw [Below.heap_setCell _ _ _ _ (by simp <;> omega)]; exact h7
 ·have:=(h8.stored j (.int .i64 x)).1;simpa [List.map_set] using this
theorem MulState.facts {w wr:World} {x0 x1 y0 y1:Value} {out:List Int} (h:MulState w x0 x1 y0 y1 out wr) :
  wr.cell? ⟨w.heap.size,0,none⟩ = some x0 ∧ wr.cell? ⟨w.heap.size,1,none⟩ = some x1 ∧ wr.cell? ⟨w.heap.size + 1,0,none⟩ = some y0 ∧ wr.cell? ⟨w.heap.size + 1,1,none⟩ = some y1 ∧ Below w.heap.size w wr ∧
  ∀ j,j < out.length → wr.cell? ⟨w.heap.size + 1 + 1 + 1,j,none⟩ = some (.int .i64 (out.getD j 0)) ∧ wr.frozen? ⟨w.heap.size + 1 + 1 + 1,j,none⟩ = false:=by
 obtain ⟨⟨h1,h2,h3,h4,h5,h6,h7⟩,h8⟩:=h;refine ⟨h1,h2,h3,h4,h5,fun j hj => ⟨?_,h8.frozenAt j⟩⟩
 rw [h8.cellAt j (by omega)]
 simp [List.getD,hj]
theorem zqto {w wr:World} {x0 x1 y0 y1 u v:Value} {n:Nat} {z:Array Value} (hz:z = #[.int .i64 0])
  (hown:wr.ownsRow (w.heap.size + 1 + 1 + 1) 3 1 (.slice (some ⟨w.heap.size + 1 + 1 + 1,0,none⟩) n n) n (madeCells z (n * 1)).toList)
  (hg:(((w.alloc (.cells #[x0,x1] 115)).alloc (.cells #[y0,y1] 115)).alloc (.cells #[u,v] 115)).grownBy wr none):MulState w x0 x1 y0 y1 (List.replicate n 0) wr:=by
 subst hz;have hb:Below (((w.alloc (.cells #[x0,x1] 115)).alloc (.cells #[y0,y1] 115)).alloc (.cells #[u,v] 115)).heap.size (((w.alloc (.cells #[x0,x1] 115)).alloc (.cells #[y0,y1] 115)).alloc (.cells #[u,v] 115)) wr :=
  (Below.refl _ _).grown hg (Nat.le_refl _) (fun k hk => by cases hk)
 refine ⟨(Boxes.start w x0 x1 y0 y1 u v).call hb,?_⟩;rw [toList_madeCells_one] at hown;simpa using hown
theorem zqrs (b1 b2:Bool) (x y:Int):signed (!(b1 == b2)) (x * y) = signed b1 x * signed b2 y:=by
 cases b1 <;> cases b2 <;> simp [signed,Int.mul_neg,Int.neg_mul]
set_option maxHeartbeats 2000000 in
theorem zqpn (u v:Value) (x y:Int) (n:Nat) (w:World) (hu:IsNum w u x) (hv:IsNum w v y) (hx:Sized n x) (hy:Sized n y) (hn:n ≤ 274877906944) :
  Calls Tryz.prog 102 #[u,v] w (MadeNum w (x * y)):=by
 obtain ⟨i0,hi,hz0,hz1,hz2⟩:=info_parts Tryz.infoInt;obtain ⟨b1,s1,a,rfl,i1,-,g1,y1,-,rfl⟩:=hu;obtain ⟨b2,s2,b,rfl,i2,-,g2,y2,-,rfl⟩:=hv;have la:=zqa1 g1 y1 hx;have lb:=zqa1 g2 y2 hy;have HA:=zh i1;have HB:=zh i2;have HD:=zh (And.intro g1 g2);obtain ⟨p1,c1,rfl,-,-⟩:=i1;obtain ⟨p2,c2,rfl,-,-⟩:=i2;clear hx hy y1 y2 g1 g2;go_enter Tryz.func102,Tryz.ntmps102;go_wp2_with (at_make; refine wpList_make_full _ rfl _ _ 69 rfl (w.heap.size + 1 + 1 + 1) 3 i0 (.int .i64 0) 1 Tryz.underlying69 hi hz0 hz1 .i64 .i64 _ _ (a.length + b.length + 1) rfl rfl (by omega) (by omega) (by rw [hz2]; omega) (by unfold maxLen; omega) (by simp) ?_; intro w0 hown hgrow)
 simp only [World.size_alloc] at hown;have hM:=zh (zqto rfl hown hgrow);clear hown hgrow;go_wp2_with fail;go_loopw [6] (fun i wr => ∃ (k:Nat) (out:List Int),k ≤ a.length ∧ i = .int .i64 k ∧ Hid (MulOut a b k out) ∧
   Hid (MulState w (.bool b1) (.slice p1 a.length c1) (.bool b2) (.slice p2 b.length c2) out wr)) (fun i _ => a.length - (intOf i).toNat)
 case atStart => exact ⟨0,_,Nat.zero_le _,rfl,zh (MulOut.start a b),hM⟩
 case round =>
  obtain ⟨k,out,hk,rfl,hO,hS⟩:=hrel;clear hM
  by_cases hlt:k < a.length
  ·obtain ⟨wo,rfl⟩:∃ wo:World,wo = wr:=⟨_,rfl⟩
   obtain ⟨q1,q2,q3,q4,hbw,-⟩:=hS.out.facts;have HBW:=zh hbw;clear hbw;go_wp2_with fail;clear q1 q2 q3 q4 HBW;go_loopw [7,8] (fun c i wr => ∃ (j:Nat) (o2:List Int) (cr:Int),j ≤ b.length ∧ c = .int .i64 cr ∧ i = .int .i64 j ∧ Hid (MulIn a b k j o2 cr) ∧ 0 ≤ cr ∧ cr ≤ 999 ∧
     Hid (MulState w (.bool b1) (.slice p1 a.length c1) (.bool b2) (.slice p2 b.length c2) o2 wr)) (fun _ i _ => b.length - (intOf i).toNat)
   case atStart => exact ⟨0,out,0,Nat.zero_le _,rfl,rfl,zh hO.out.enter,by omega,by omega,hS⟩
   case round =>
    obtain ⟨j,o2,cr,hj,rfl,rfl,hI,cr0,cr1,hT⟩:=hrel;clear hS hO;obtain ⟨q1,q2,q3,q4,hbw,hcells⟩:=hT.out.facts;have hlen:=zh hI.out.2.2.1
    by_cases hjl:j < b.length
    ·have hkj:k + j < o2.length:=by have:=hlen.out; omega
     obtain ⟨hc1,hf1⟩:=hcells (k + j) hkj;obtain ⟨pb,po,rfl,hpb,hpa⟩:=HA.out.cell hlt;obtain ⟨qb,qo,rfl,hqb,hqa⟩:=HB.out.cell hjl;have hpa:=cell_later hbw hpa;have hqa:=cell_later hbw hqa;have ox:=hI.out.2.1.getD (k + j);have ax:=HD.out.1.getD k;have bx:=HD.out.2.getD j;have hst:=zh (fun (o x y:Int) (ho:o2.getD (k + j) 0 = o) (hx:a.getD k 0 = x) (hy:b.getD j 0 = y) => hI.out.step HD.out.1 HD.out.2 hlt hjl o x y ho hx hy)
     generalize o2.getD (k + j) 0 = o at *;generalize a.getD k 0 = x at *;generalize b.getD j 0 = y at *;have hst2:=zh (hst.out o x y rfl rfl rfl);have hTT:=zh (fun (n:Nat) (z:Int) => (hT.out.drewN n).set (k + j) z)
     obtain ⟨o1,o9⟩:=ox;obtain ⟨m1,m2⟩:=zqjg ax.1 ax.2 bx.1 bx.2;clear hst hcells hI hT hbw ax bx hpb hqb;have hB1:(0:Int) ≤ (k:Int):=by omega
     have hB2:(k:Int) < (a.length:Int):=by omega
     have hB3:(0:Int) ≤ (j:Int):=by omega
     have hB4:(j:Int) < (b.length:Int):=by omega
     have hB5:(0:Int) ≤ (k:Int) + (j:Int):=by omega
     have hB6:(k:Int) + (j:Int) < (o2.length:Int):=by omega
     have e1:IntKind.i64.wrap ((k:Int) + (j:Int)) = (k:Int) + (j:Int):=IntWalk.i64_in _ (by omega)
     have e5:((k:Int) + (j:Int)).toNat = k + j:=by omega
     have e2:IntKind.i64.wrap (x * y) = x * y:=IntWalk.i64_in _ (by omega)
     have e3:IntKind.i64.wrap (o + x * y) = o + x * y:=IntWalk.i64_in _ (by omega)
     have e4:IntKind.i64.wrap (o + x * y + cr) = o + x * y + cr:=IntWalk.i64_in _ (by omega)
     go_wp2_with fail;go_quiet (fail);have hs0:0 ≤ o + x * y + cr:=by omega
     have hs1:o + x * y + cr ≤ 999999:=by omega
     clear e1 e2 e3 e4 e5 hB5 hB6 m1 m2 o1 o9;generalize o + x * y + cr = t at *;go_wp2_with fail;go_roundw
     case rel => exact ⟨j + 1,_,t / 1000,by omega,rfl,by go_num,hst2,by omega,by omega,zh (hTT.out nq (t % 1000))⟩
     case measure => simp [intOf]; omega
    ·obtain rfl:j = b.length:=by omega
     have hO2:=zh (hI.out.leave hlt);have hkj:k + b.length < o2.length:=by have:=hlen.out; omega
     obtain ⟨hc1,hf1⟩:=hcells (k + b.length) hkj;have hT2:=zh (hT.out.set (k + b.length) cr);clear hI hT hbw hcells;go_wp2_with fail;go_roundw
     case rel => exact ⟨k + 1,_,by omega,by go_num,hO2,hT2⟩
     case measure => simp [intOf]; omega
  ·obtain rfl:k = a.length:=by omega
   obtain ⟨⟨q1,q2,q3,q4,hkept⟩,hown⟩:=hS.out;have hval:=zh (zqrs b1 b2 (val a) (val b));have hvo:=hO.out.stop;have hlen:=hO.out.2.2.1;have hMade:=zh (zqb9 (!(b1 == b2)) _ out wr (Ints.own hown) (Typed.own hown) hO.out.2.1 (by omega))
   rw [hlen,hvo] at hMade;have HK:=zh hkept;have HL:=zh hlen;clear hS hO hown hkept hlen HA HB HD hvo;go_wp2_with fail;refine (hMade.out).mono ?_; rintro e w2 ⟨r,rfl,hr,hb2⟩;have hk2:=HK.out.call hb2;obtain ⟨rn,rp,rl,rc,rfl⟩:=hr.shape;obtain ⟨⟨x1,hx1⟩,⟨y1,hy1⟩,hf1,hf2⟩:=hk2.cells;have hN:=hk2.num hr;have hE:=(hk2.store (.bool rn) (.slice rp rl rc)).1;rw [hval.out] at hN;clear hk2 hr hb2 HK hMade hval;go_wp2_with fail;exact bodyPost_ret (v:=.agg #[.bool rn,.slice rp rl rc]) (by simp [results,Tryz.results102,go_sem,hx1,hy1]) rfl ⟨_,rfl,hN,hE⟩
end Go.Proofs.YtmnbljijnbhghaaGreatDoor
namespace Go.Proofs.YtmnbljijnbhghaaGreatDoor
set_option maxRecDepth 100000
open Go.RowKit
theorem Dig.cons {l:List Int} (h:Dig l) {y:Int} (h1:0 ≤ y) (h2:y ≤ 999):Dig (y :: l):=by
 intro x hx;rcases List.mem_cons.1 hx with rfl | hx
 ·exact ⟨h1,h2⟩
 ·exact h x hx
section
variable {P : Program} (w : World)
theorem run_append_nil (base:Nat) (t ty e:TypeId) (i:TypeInfo) (size:Nat) (ht:P.underlying t = some (.slice e)) (hi:P.info? e = some i)
  (v:Value) (n:Nat) (xs:List Value) (hown:w.ownsRow base e size v n xs) (c:Nat):(Builtin.append_ #[t,t] ty #[v,.slice none 0 c]).run P w = .ok v w:=by
 rcases hown.2 with ⟨rfl,rfl⟩ | ⟨g,cap,cur,rfl,_,_,hnc,_⟩
 ·simp [Builtin.append_,run_underlying ht,sizeOf,typeInfo,hi,Builtin.lenOf,Builtin.firstCells]
 ·simp [Builtin.append_,run_underlying ht,sizeOf,typeInfo,hi,Builtin.lenOf,Builtin.firstCells,hnc,storeCells]
theorem zqey (base:Nat) (t ty e:TypeId) (i:TypeInfo) (z:Value) (bytes:Nat) (ht:P.underlying t = some (.slice e)) (hi:P.info? e = some i) (hz:i.zero = some z) (hsize:i.size = 1) (hby:i.bytes = bytes) (hzs:z.cells.size = 1)
  (k:IntKind) (v v2:Value) (zs ns:List Int) (hown:w.ownsRow base e 1 v zs.length (zs.map (Value.int k))) (hv2:Ints k w v2 ns) (h63:zs.length + ns.length ≤ maxLen) (hbytes:(zs.length + ns.length) * bytes ≤ 140737488355328) (hbase:base ≤ w.heap.size) :
  ∃ v' w',(Builtin.append_ #[t,t] ty #[v,v2]).run P w = .ok v' w' ∧ w'.ownsRow base e 1 v' (zs ++ ns).length ((zs ++ ns).map (Value.int k)) ∧ w.grownBy w' v.ownBlock:=by
 obtain ⟨a,cap,rfl,hc,ha⟩:=hv2;have one:∀ u ∈ ns.map (Value.int k),u.oneCell' = true:=by
  intro u hu; obtain ⟨x,_,rfl⟩:=List.mem_map.1 hu; rfl
 have fin:∀ (v':Value) (w':World),w'.ownsRow base e 1 v' (zs.length + ns.length) (zs.map (Value.int k) ++ ns.map (Value.int k)) → w'.ownsRow base e 1 v' (zs ++ ns).length ((zs ++ ns).map (Value.int k)):=fun v' w' h => by
  simpa using h
 cases a with
 | none =>
  have hn:ns = []:=by
   rcases ha with h | ⟨b,off,h,_⟩
   ·exact h
   ·cases h
  subst hn;exact ⟨v,w,run_append_nil w base t ty e i 1 ht hi v _ _ hown cap,fin v w (by simpa using hown),World.grownBy.refl w _⟩
 | some ad =>
  have hnews:∀ j u,(ns.map (Value.int k))[j]? = some u → w.cell? (ad.add j) = some u:=fun j u hj => by
   rcases ha with h | ⟨b,off,h,_,hcell⟩
   ·subst h; simp at hj
   ·simp only [Option.some.injEq] at h;subst h;rw [List.getElem?_map] at hj;obtain ⟨x,hx,rfl⟩:=Option.map_eq_some_iff.1 hj;have hl:=(List.getElem?_eq_some_iff.1 hx).1;have hh:=hcell j hl;have e1:ns.getD j 0 = x:=by simp [List.getD,hx]
    rw [e1] at hh
    by_cases h0:j = 0
    ·subst h0; simpa [Addr.add] using hh
    ·simpa [Addr.add,h0] using hh
  obtain ⟨v',w',hrun,r1,r2,_⟩:=run_append_own (P:=P) w base t ty e i z 1 bytes ht hi hz hsize hby hzs (by omega) v zs.length _ hown ad ns.length cap (ns.map (Value.int k)) (by simp) hnews one h63 hbytes hbase
  exact ⟨v',w',hrun,fin v' w' r1,r2⟩
theorem zqin {ops:Array Oper} {o:Oper} {a:Act} {K:Act → World → Prop} {Q:Exit → Act → World → Prop} {E:Prop} (hgd:o.guard = none) (s x:Operand) (t:TypeId)
  (ho:o.op = .call { callee:=.builtin .append,args:=#[s,x],argTypes:=#[t,t] })
  (base:Nat) (e:TypeId) (i:TypeInfo) (z:Value) (bytes:Nat) (ht:P.underlying t = some (.slice e)) (hi:P.info? e = some i) (hz:i.zero = some z) (hsize:i.size = 1) (hby:i.bytes = bytes) (hzs:z.cells.size = 1)
  (k:IntKind) (v v2:Value) (zs ns:List Int) (hs:a.eval s = v) (hx:a.eval x = v2) (hown:w.ownsRow base e 1 v zs.length (zs.map (Value.int k))) (hv2:Ints k w v2 ns) (h63:zs.length + ns.length ≤ maxLen) (hbytes:(zs.length + ns.length) * bytes ≤ 140737488355328) (hbase:base ≤ w.heap.size)
  (h:∀ v' w',w'.ownsRow base e 1 v' (zs ++ ns).length ((zs ++ ns).map (Value.int k)) → w.grownBy w' v.ownBlock → K (a.put o.dst v') w') :
  if Region.wanted o (yielded ops a.tmps) = true then Oper.wp P o a w K Q else E:=by
 have hw:Region.wanted o (yielded ops a.tmps) = true:=by simp [Region.wanted,hgd]
 rw [if_pos hw];obtain ⟨v',w',hrun,r1,r2⟩:=zqey (P:=P) w base t o.type e i z bytes ht hi hz hsize hby hzs k v v2 zs ns hown hv2 h63 hbytes hbase;unfold Oper.wp;simp [execOp,ho,resolve,invoke,builtin,hs,hx,hrun,Result.andThen];exact h v' w' r1 r2
end
end Go.Proofs.YtmnbljijnbhghaaGreatDoor
namespace Go.Proofs.YtmnbljijnbhghaaGreatDoor
set_option maxRecDepth 100000
open Go.RowKit
set_option linter.unusedVariables false
def Cut (ap:Option Addr) (cap:Nat) (a:List Int) (v:Value) (n:Nat):Prop :=
 (n = 0 ∧ v = .slice none 0 0 ∨ 0 < n ∧ v = .slice ap n cap) ∧ n ≤ a.length ∧ (∀ j,n ≤ j → a.getD j 0 = 0) ∧ Tidy (a.take n)
def CutPost (ap:Option Addr) (cap:Nat) (a:List Int) (w:World) (e:Ending) (w':World):Prop:=∃ v n,e = .returned v ∧ Cut ap cap a v n ∧ w = w'
theorem zqvx {ap:Option Addr} {cap:Nat} {a:List Int} (h:∀ j,0 ≤ j → a.getD j 0 = 0):Cut ap cap a (.slice none 0 0) 0 :=
 ⟨.inl ⟨rfl,rfl⟩,Nat.zero_le _,h,.inl rfl⟩
theorem zqvy {ap:Option Addr} {cap:Nat} {a:List Int} {m:Nat} (hm:m < a.length) (h:∀ j,m + 1 ≤ j → a.getD j 0 = 0) (h0:a.getD m 0 ≠ 0):Cut ap cap a (.slice ap (m + 1) cap) (m + 1) :=
 ⟨.inr ⟨by omega,rfl⟩,hm,h,zqlz (by omega) (.inr h0)⟩
theorem zqr5 {a:List Int} {m:Nat} (h:∀ j,m + 1 ≤ j → a.getD j 0 = 0) (h0:a.getD m 0 = 0):∀ j,m ≤ j → a.getD j 0 = 0:=fun j hj => by
 by_cases e:j = m
 ·rw [e]; exact h0
 ·exact h j (by omega)
set_option maxHeartbeats 1000000 in
theorem zqbh (ap:Option Addr) (L cap:Nat) (a:List Int) (w:World) (hv:Ints .u32 w (.slice ap L cap) a) (hl:L ≤ 1099511627776) :
  Calls Tryz.prog 169 #[.slice ap L cap] w (CutPost ap cap a w):=by
 have hL:a.length = L:=by obtain ⟨_,_,e,_⟩:=hv; simp at e; exact e.2.1.symm
 have hcap:L ≤ cap:=by obtain ⟨_,_,e,h,_⟩:=hv; simp at e; omega
 have HV:=zh hv;have HL:=zh hL;clear hv hL;go_enter Tryz.func169,Tryz.ntmps169;go_wp2_with fail;go_loop [7] (fun i => ∃ (k m:Nat),Hid (L = k + m) ∧ k ≤ L ∧ i = .int .i64 k ∧ Hid (∀ j,m ≤ j → a.getD j 0 = 0)) (fun i => L - (intOf i).toNat)
 case atStart => exact ⟨0,L,zh (by omega),by omega,rfl,zh (fun j hj => zqa3 (by have:=HL.out; omega))⟩
 case round =>
  obtain ⟨k,m,hm,hk,rfl,hz⟩:=hrel
  by_cases hlt:k < L
  ·obtain ⟨n,rfl⟩:∃ n,m = n + 1:=⟨m - 1,by have:=hm.out; omega⟩
   obtain ⟨b,off,hap,hb,hcell⟩:=HV.out.cell (i:=n) (by have:=hm.out; have:=HL.out; omega)
   subst hap;have hi0:(0:Int) ≤ L - k - 1:=by omega
   have hi1:(L:Int) - k - 1 < L:=by omega
   have hiN:((L:Int) - k - 1).toNat = n:=by have:=hm.out; omega
   have hiM:((L:Int) - k).toNat = n + 1:=by have:=hm.out; omega
   have hX:=zh (fun (x:Int) (hx:a.getD n 0 = x) (e:x = 0) => zqr5 hz.out (by rw [hx,e]))
   have hY:=zh (fun (x:Int) (hx:a.getD n 0 = x) (e:x ≠ 0) => (zqvy (ap:=some ⟨b,off,none⟩) (cap:=cap) (m:=n) (by have:=hm.out; have:=HL.out; omega) hz.out (by rw [hx]; exact e)))
   generalize hx:a.getD n 0 = x at *;have hX2:=zh (hX.out x rfl);have hY2:=zh (hY.out x rfl);clear hX hY hx hz
   by_cases h0:x = 0
   ·subst h0;go_wp2_with fail;go_round
    case rel => exact ⟨k + 1,n,zh (by have:=hm.out; omega),by omega,by go_num,zh (hX2.out rfl)⟩
    case measure => simp [intOf]; omega
   ·go_wp2_with fail;go_ret;exact ⟨_,_,rfl,hY2.out h0,rfl⟩
  ·have hE:=zh (zqvx (ap:=ap) (cap:=cap) (fun j hj => hz.out j (by have:=hm.out; omega)))
   clear hz;go_wp2_with fail;go_ret;exact ⟨_,_,rfl,hE.out,rfl⟩
def WList (w:World) (v:Value) (a:List Int):Prop:=Ints .u32 w v a ∧ Wd a ∧ a.length ≤ 1099511627776
theorem WList.below {w w':World} {v:Value} {a:List Int} (h:WList w v a) (hb:Below w.heap.size w w'):WList w' v a:=⟨h.1.below hb,h.2⟩
theorem WList.nil {w:World}:WList w (.slice none 0 0) []:=⟨⟨none,0,rfl,by simp,.inl rfl⟩,Wd.nil,by simp⟩
theorem WList.shape {w:World} {v:Value} {a:List Int} (h:WList w v a):∃ p c,v = .slice p a.length c:=by
 obtain ⟨⟨p,c,e,_⟩,_⟩:=h; exact ⟨p,c,e⟩
theorem Cut.wlist {w:World} {ap:Option Addr} {cap n:Nat} {a:List Int} {v:Value} (h:Cut ap cap a v n) (hv:WList w (.slice ap a.length cap) a):WList w v (a.take n) ∧ wv (a.take n) = wv a ∧ Tidy (a.take n):=by
 obtain ⟨h1,h2,h3,h4⟩:=h;refine ⟨?_,zqzt h2 h3,h4⟩;rcases h1 with ⟨rfl,rfl⟩ | ⟨_,rfl⟩
 ·exact WList.nil
 ·exact ⟨hv.1.take h2,hv.2.1.take n,by rw [List.length_take]; have:=hv.2.2; omega⟩
def IsNat (w:World) (v:Value) (z:Int):Prop:=∃ a,WList w v a ∧ Tidy a ∧ wv a = z
theorem IsNat.below {w w':World} {v:Value} {z:Int} (h:IsNat w v z) (hb:Below w.heap.size w w'):IsNat w' v z:=by
 obtain ⟨a,h1,h2,h3⟩:=h; exact ⟨a,h1.below hb,h2,h3⟩
set_option maxHeartbeats 400000 in
theorem zqil (b:Bool) (w:World):Calls Tryz.prog 216 #[.bool b] w fun e w' => e = .returned (.int .i64 (bif b then -1 else 1)) ∧ w = w':=by
 cases b
 all_goals
  go_enter Tryz.func216,Tryz.ntmps216;go_wp2;go_ret;exact ⟨rfl,rfl⟩
set_option maxRecDepth 100000
open Go.RowKit
set_option linter.unusedVariables false
theorem Tryz.infoU32:(Tryz.prog.info? 27).map (fun i => (i.zero,i.size,i.bytes)) = some (some (.int .u32 0),1,4):=by kernel_rfl
def WRow (w:World) (B g cap:Nat) (a:List Int):Prop:=w.ownsRow B 27 1 (.slice (some ⟨g,0,none⟩) a.length cap) a.length (a.map (Value.int .u32))
theorem WRow.facts {w:World} {B g cap:Nat} {a:List Int} (h:WRow w B g cap a):B ≤ g ∧ g < w.heap.size ∧ a.length ≤ cap ∧ cap ≤ maxLen ∧ ∀ j,j < a.length → w.cell? ⟨g,j,none⟩ = some (.int .u32 (a.getD j 0)) ∧ w.frozen? ⟨g,j,none⟩ = false:=by
 have h0:=h;obtain ⟨hl,hh⟩:=h;have h1:=World.ownsRow.lt h0 g rfl;refine ⟨h1.1,h1.2,?_,?_,fun j hj => ⟨?_,World.ownsRow.frozenAt h0 j⟩⟩
 ·rcases hh with ⟨e,_⟩ | ⟨g',cap',cur,e,_,_,hc,_⟩
  ·simp at e
  ·simp at e; omega
 ·rcases hh with ⟨e,_⟩ | ⟨g',cap',cur,e,_,_,_,hc,_⟩
  ·simp at e
  ·simp at e; omega
 ·rw [World.ownsRow.cellAt h0 j (by omega)]
  simp [List.getD,hj]
theorem WRow.set {w:World} {B g cap:Nat} {a:List Int} (h:WRow w B g cap a) (j:Nat) (x:Int):WRow (w.setCell ⟨g,j,none⟩ (.int .u32 x)) B g cap (a.set j x):=by
 have:=(World.ownsRow.stored h j (.int .u32 x)).1;simpa [WRow,List.map_set] using this
theorem WRow.drewN {w:World} {B g cap:Nat} {a:List Int} (h:WRow w B g cap a) (n:Nat):WRow (w.drewN n) B g cap a:=h
theorem WRow.call {w w':World} {B g cap:Nat} {a:List Int} (h:WRow w B g cap a) (hb:Below w.heap.size w w'):WRow w' B g cap a:=by
 obtain ⟨h1,h2⟩:=h;refine ⟨h1,?_⟩;rcases h2 with h2 | ⟨g',cap',cur,e,h3,h4,h5⟩
 ·exact .inl h2
 ·exact .inr ⟨g',cap',cur,e,h3,by rw [hb.block g' (Array.getElem?_eq_some_iff.1 h4).1]; exact h4,h5⟩
theorem WRow.wlist {w:World} {B g cap:Nat} {a:List Int} (h:WRow w B g cap a) (hd:Wd a) (hl:a.length ≤ 1099511627776):WList w (.slice (some ⟨g,0,none⟩) a.length cap) a:=⟨Ints.own h,hd,hl⟩
theorem zqr9 {B:Nat} {w w':World} {g:Nat} (h:Below B w w') (hg:B ≤ g) (j:Nat) (x:Value):Below B w (w'.setCell ⟨g,j,none⟩ x):=h.setCell hg x
theorem zqbw {w w0:World} {n:Nat} {z:Array Value} (hz:z = #[.int .u32 0]) (hown:w0.ownsRow w.heap.size 27 1 (.slice (some ⟨w.heap.size,0,none⟩) n n) n (madeCells z (n * 1)).toList) (hg:w.grownBy w0 none) :
  WRow w0 w.heap.size w.heap.size n (List.replicate n 0) ∧ Below w.heap.size w w0:=by
 subst hz;refine ⟨?_,(Below.refl _ _).grown hg (Nat.le_refl _) (fun k hk => by cases hk)⟩
 rw [toList_madeCells_one] at hown;simpa [WRow] using hown
theorem Cut.own {w:World} {B g cap n:Nat} {a:List Int} {v:Value} (h:Cut (some ⟨g,0,none⟩) cap a v n) (hr:WRow w B g cap a):w.ownsRow B 27 1 v (a.take n).length ((a.take n).map (Value.int .u32)):=by
 obtain ⟨h1,h2,h3,h4⟩:=h;have hl:(a.take n).length = n:=by rw [List.length_take]; omega
 rcases h1 with ⟨rfl,rfl⟩ | ⟨_,rfl⟩
 ·exact World.ownsRow_nil _ _ _ _
 ·obtain ⟨k1,k2⟩:=hr;refine ⟨by simp,?_⟩
  rcases k2 with ⟨e,_⟩ | ⟨g',cap',cur,e,q1,q2,q3,q4,q5,q6⟩
  ·simp at e
  ·refine .inr ⟨g',cap',cur,by simp at e ⊢; exact ⟨e.1,by omega,e.2⟩,q1,q2,by omega,q4,q5,?_⟩
   have:=congrArg (List.take n) q6;rw [List.take_take] at this;rw [hl,show n * 1 = min n (a.length * 1) from by omega,this,List.map_take]
def Fresh (w:World) (z:Int) (m:Nat) (e:Ending) (w':World):Prop :=
 ∃ v a,e = .returned v ∧ w'.ownsRow w.heap.size 27 1 v a.length (a.map (Value.int .u32)) ∧ Wd a ∧ Tidy a ∧ wv a = z ∧ a.length ≤ m ∧ Below w.heap.size w w'
theorem zqa4 {w:World} {B:Nat} {v:Value} {a:List Int} (h:w.ownsRow B 27 1 v a.length (a.map (Value.int .u32))) (hd:Wd a) (hl:a.length ≤ 1099511627776):WList w v a:=⟨Ints.own h,hd,hl⟩
section
variable {P : Program} (w : World)
theorem zqdi {ops:Array Oper} {rest:List Oper} {o:Oper} {a:Act} {Q:Exit → Act → World → Prop} (hgd:o.guard = none) (s x:Operand) (t:TypeId)
  (ho:o.op = .call { callee:=.builtin .append,args:=#[s,x],argTypes:=#[t,t] })
  (base:Nat) (e:TypeId) (i:TypeInfo) (z:Value) (bytes:Nat) (ht:P.underlying t = some (.slice e)) (hi:P.info? e = some i) (hz:i.zero = some z) (hsize:i.size = 1) (hby:i.bytes = bytes) (hzs:z.cells.size = 1)
  (k:IntKind) (v v2:Value) (zs ns:List Int) (hs:a.eval s = v) (hx:a.eval x = v2) (hown:w.ownsRow base e 1 v zs.length (zs.map (Value.int k))) (hv2:Ints k w v2 ns) (h63:zs.length + ns.length ≤ maxLen) (hbytes:(zs.length + ns.length) * bytes ≤ 140737488355328) (hbase:base ≤ w.heap.size)
  (h:∀ v' w',w'.ownsRow base e 1 v' (zs ++ ns).length ((zs ++ ns).map (Value.int k)) → w.grownBy w' v.ownBlock → wpList P ops Q rest (a.put o.dst v') w'):wpList P ops Q (o :: rest) a w :=
 wpList_plain hgd fun _ hK => by
  obtain ⟨v',w',hrun,r1,r2⟩:=zqey (P:=P) w base t o.type e i z bytes ht hi hz hsize hby hzs k v v2 zs ns hown hv2 h63 hbytes hbase;unfold Oper.wp;simp [execOp,ho,resolve,invoke,builtin,hs,hx,hrun,Result.andThen];exact hK _ _ (h v' w' r1 r2)
end
set_option maxHeartbeats 400000 in
theorem zqnv (v:Value) (a:List Int) (w:World) (hv:WList w v a) (z:Int) (hz:wv a = z) :
  Calls Tryz.prog 157 #[v] w (Fresh w z a.length):=by
 obtain ⟨i0,hi,hz0,hz1,hz2⟩:=info_parts Tryz.infoU32;obtain ⟨p,c,rfl⟩:=hv.shape;have HV:=zh hv;have HS:=zh (zqbh p a.length c a w hv.1 hv.2.2);clear hv;go_enter Tryz.func157,Tryz.ntmps157;go_wp2_with fail;refine (HS.out).mono ?_; rintro e w' ⟨u,n,rfl,hc,rfl⟩;have hw:=hc.wlist HV.out;have hn:=hc.2.1;have HW:=zh hw.2;have hI:=hw.1.1;have hD:=hw.1.2.1;have hL:(a.take n).length ≤ a.length:=by rw [List.length_take]; omega
 have hA:a.length ≤ 1099511627776:=HV.out.2.2;clear hc hw HV HS;go_wp2_with (at_builtin; refine zqdi _ rfl _ _ 24 rfl w.heap.size 27 i0 (.int .u32 0) 4 Tryz.underlying24 hi hz0 hz1 hz2 rfl .u32 _ _ [] (a.take n) rfl rfl (World.ownsRow_nil _ _ _ _) hI (by unfold maxLen; simp; omega) (by simp; omega) (Nat.le_refl _) ?_; intro v' w1 hown hgrow)
 go_ret;exact ⟨v',a.take n,rfl,by simpa using hown,hD,HW.out.2,HW.out.1.trans hz,hL,(Below.refl _ _).grown hgrow (Nat.le_refl _) (fun k hk => by cases hk)⟩
end Go.Proofs.YtmnbljijnbhghaaGreatDoor
