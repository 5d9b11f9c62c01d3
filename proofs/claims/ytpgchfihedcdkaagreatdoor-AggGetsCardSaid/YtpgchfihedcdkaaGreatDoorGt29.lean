/- Contracts that the law leans on: Schx Face Facs Facx Agog. -/
import Derived.BigQuiet
import Derived.Deep.QuietTactic
import Derived.Deep.RegionLaw
import Derived.Test.YtpgchfihedcdkaaGreatDoorGt02
import Derived.Test.YtpgchfihedcdkaaGreatDoorGt09
import Derived.Test.YtpgchfihedcdkaaGreatDoorGt15
import Derived.Test.YtpgchfihedcdkaaGreatDoorGt24
import Derived.Test.YtpgchfihedcdkaaGreatDoorGt25
import Derived.Test.YtpgchfihedcdkaaGreatDoorGt26
import Derived.Test.YtpgchfihedcdkaaGreatDoorGt27
import Derived.Test.YtpgchfihedcdkaaGreatDoorGt28
namespace Go.Proofs.YtpgchfihedcdkaaGreatDoor
set_option maxRecDepth 100000
open Go.RowKit
set_option linter.unusedVariables false
def R3 (w:World) (N:Nat) (v:Value) (p e:Nat):Prop:=w.heap[N]? = some (.cells #[v,.int .i64 p,.int .i64 e] 120 (0,0))
theorem R3.reads {w:World} {N:Nat} {v:Value} {p e:Nat} (h:R3 w N v p e):w.cell? ⟨N,0,none⟩ = some v ∧ w.cell? ⟨N,1,none⟩ = some (.int .i64 p) ∧ w.cell? ⟨N,2,none⟩ = some (.int .i64 e):=by
 unfold R3 at h;refine ⟨by simp [World.cell?,h],by simp [World.cell?,h],by simp [World.cell?,h]⟩
theorem R3.free {w:World} {N:Nat} {v:Value} {p e:Nat} (h:R3 w N v p e):w.frozen? ⟨N,1,none⟩ = false ∧ w.frozen? ⟨N,2,none⟩ = false:=by
 unfold R3 at h;refine ⟨by simp [World.frozen?,h],by simp [World.frozen?,h]⟩
theorem R3.lt {w:World} {N:Nat} {v:Value} {p e:Nat} (h:R3 w N v p e):N < w.heap.size:=(Array.getElem?_eq_some_iff.1 h).1
theorem R3.below {w w':World} {N:Nat} {v:Value} {p e:Nat} (h:R3 w N v p e) (hb:Below w.heap.size w w'):R3 w' N v p e:=by
 unfold R3; rw [hb.block N h.lt]; exact h
theorem R3.grown {w w':World} {K N:Nat} {v:Value} {p e:Nat} (h:R3 w N v p e) (hg:w.grownBy w' (some K)) (hne:N ≠ K):R3 w' N v p e:=by
 unfold R3; rw [hg.block N h.lt (by simpa using hne)]; exact h
theorem R3.set1 {w:World} {N:Nat} {v:Value} {p e:Nat} (h:R3 w N v p e) (q:Nat):R3 (w.setCell ⟨N,1,none⟩ (.int .i64 q)) N v q e:=heap_setCell_same w N 1 _ _ (.int .i64 q) h
theorem R3.set2 {w:World} {N:Nat} {v:Value} {p e:Nat} (h:R3 w N v p e) (q:Nat):R3 (w.setCell ⟨N,2,none⟩ (.int .i64 q)) N v p q:=heap_setCell_same w N 2 _ _ (.int .i64 q) h
def Got5 (w:World) (K:Nat) (u i:Int) (t:ByteArray) (n e:Nat):Prop:=w.heap[K]? = some (.cells #[.int .u64 u,.int .i64 i,.string t,.int .i64 n,.int .i64 e] 186 (0,0))
theorem Got5.reads {w:World} {K:Nat} {u i:Int} {t:ByteArray} {n e:Nat} (h:Got5 w K u i t n e):w.cell? ⟨K,0,none⟩ = some (.int .u64 u) ∧ w.cell? ⟨K,1,none⟩ = some (.int .i64 i) ∧ w.cell? ⟨K,2,none⟩ = some (.string t) ∧ w.cell? ⟨K,3,none⟩ = some (.int .i64 n) ∧ w.cell? ⟨K,4,none⟩ = some (.int .i64 e):=by
 unfold Got5 at h;refine ⟨by simp [World.cell?,h],by simp [World.cell?,h],by simp [World.cell?,h],by simp [World.cell?,h],by simp [World.cell?,h]⟩
theorem Got5.free {w:World} {K:Nat} {u i:Int} {t:ByteArray} {n e:Nat} (h:Got5 w K u i t n e):w.frozen? ⟨K,0,none⟩ = false ∧ w.frozen? ⟨K,1,none⟩ = false ∧ w.frozen? ⟨K,2,none⟩ = false ∧ w.frozen? ⟨K,3,none⟩ = false ∧ w.frozen? ⟨K,4,none⟩ = false:=by
 unfold Got5 at h;refine ⟨by simp [World.frozen?,h],by simp [World.frozen?,h],by simp [World.frozen?,h],by simp [World.frozen?,h],by simp [World.frozen?,h]⟩
theorem Got5.lt {w:World} {K:Nat} {u i:Int} {t:ByteArray} {n e:Nat} (h:Got5 w K u i t n e):K < w.heap.size:=(Array.getElem?_eq_some_iff.1 h).1
theorem Got5.below {w w':World} {K:Nat} {u i:Int} {t:ByteArray} {n e:Nat} (h:Got5 w K u i t n e) (hb:Below w.heap.size w w'):Got5 w' K u i t n e:=by
 unfold Got5; rw [hb.block K h.lt]; exact h
theorem Got5.grown {w w':World} {K N:Nat} {u i:Int} {t:ByteArray} {n e:Nat} (h:Got5 w K u i t n e) (hg:w.grownBy w' (some N)) (hne:K ≠ N):Got5 w' K u i t n e:=by
 unfold Got5; rw [hg.block K h.lt (by simpa using hne)]; exact h
set_option maxHeartbeats 4000000 in
theorem zqj1 (w:World) (N:Nat) (v:Value) (p e:Nat) (d u i m:Int) (f:Nat) (t:ByteArray) (h:R3 w N v p e) (he:e ≠ 0) :
  Calls Tryz.prog 126 #[.pointer (some ⟨N,0,none⟩),askV d u i f t m] w fun r w' => r = .returned (gotV 0 0 ⟨#[]⟩ 0 0) ∧ Below w.heap.size w w':=by
 have hb2:=zqih w (askO d u i f t m) (gotO 0 0 ⟨#[]⟩ 0 0);obtain ⟨r0,r1,r2⟩:=(h.below hb2).reads;have he':((e:Int) != 0) = true:=by simp; omega
 have hne:((e:Int) = 0) = False:=eq_false (by omega)
 have HB:=zh hb2;clear he hb2 h;go_enter Tryz.func126,Tryz.ntmps126;go_wp2_with fail;exact bodyPost_ret (v:=gotV 0 0 ⟨#[]⟩ 0 0) (by simp [results,Tryz.results126,go_sem]) rfl ⟨rfl,HB.out⟩
theorem zqez {w w':World} (hb:Below w.heap.size w w') {p0 p1 p2 p3 q0 q1 q2 q3:Addr} {a0 a1 a2 a3 b0 b1 b2 b3:Value}
  (h:w.cell? p0 = some a0 ∧ w.cell? p1 = some a1 ∧ w.cell? p2 = some a2 ∧ w.cell? p3 = some a3 ∧ w.cell? q0 = some b0 ∧ w.cell? q1 = some b1 ∧ w.cell? q2 = some b2 ∧ w.cell? q3 = some b3) :
  w'.cell? p0 = some a0 ∧ w'.cell? p1 = some a1 ∧ w'.cell? p2 = some a2 ∧ w'.cell? p3 = some a3 ∧ w'.cell? q0 = some b0 ∧ w'.cell? q1 = some b1 ∧ w'.cell? q2 = some b2 ∧ w'.cell? q3 = some b3 :=
 ⟨zqar hb h.1,zqar hb h.2.1,zqar hb h.2.2.1,zqar hb h.2.2.2.1,zqar hb h.2.2.2.2.1,zqar hb h.2.2.2.2.2.1,zqar hb h.2.2.2.2.2.2.1,zqar hb h.2.2.2.2.2.2.2⟩
abbrev five (w:World) (K:Nat) (u i:Int) (t:ByteArray) (n e:Nat):World:=((((w.setCell ⟨K,0,none⟩ (.int .u64 u)).setCell ⟨K,1,none⟩ (.int .i64 i)).setCell ⟨K,2,none⟩ (.string t)).setCell ⟨K,3,none⟩ (.int .i64 n)).setCell ⟨K,4,none⟩ (.int .i64 e)
theorem zqct (w:World) (K:Nat) (u i:Int) (t:ByteArray) (n e:Nat):w.grownBy (five w K u i t n e) (some K) :=
 zqag (zqag (zqag (zqag (zqad w K 0 _) (zqad _ K 1 _)) (zqad _ K 2 _)) (zqad _ K 3 _)) (zqad _ K 4 _)
theorem zqjj {w:World} {K:Nat} {u i u' i':Int} {t t':ByteArray} {n e n' e':Nat} (h:Got5 w K u i t n e):Got5 (five w K u' i' t' n' e') K u' i' t' n' e':=by
 have h0:=heap_setCell_same w K 0 _ _ (.int .u64 u') h;have h1:=heap_setCell_same _ K 1 _ _ (.int .i64 i') h0;have h2:=heap_setCell_same _ K 2 _ _ (.string t') h1;have h3:=heap_setCell_same _ K 3 _ _ (.int .i64 n') h2;exact heap_setCell_same _ K 4 _ _ (.int .i64 e') h3
theorem zq11 {w w':World} {K B N:Nat} (hg:w.grownBy w' (some K)) {o0 o1 o2 o3 o4 o5 q0 q1:Nat} {a0 a1 a2 a3 a4 a5 b0 b1:Value} (hB:B ≠ K) (hN:N ≠ K)
  (h:w.cell? ⟨B,o0,none⟩ = some a0 ∧ w.cell? ⟨B,o1,none⟩ = some a1 ∧ w.cell? ⟨B,o2,none⟩ = some a2 ∧ w.cell? ⟨B,o3,none⟩ = some a3 ∧ w.cell? ⟨B,o4,none⟩ = some a4 ∧ w.cell? ⟨B,o5,none⟩ = some a5 ∧ w.cell? ⟨N,q0,none⟩ = some b0 ∧ w.cell? ⟨N,q1,none⟩ = some b1) :
  w'.cell? ⟨B,o0,none⟩ = some a0 ∧ w'.cell? ⟨B,o1,none⟩ = some a1 ∧ w'.cell? ⟨B,o2,none⟩ = some a2 ∧ w'.cell? ⟨B,o3,none⟩ = some a3 ∧ w'.cell? ⟨B,o4,none⟩ = some a4 ∧ w'.cell? ⟨B,o5,none⟩ = some a5 ∧ w'.cell? ⟨N,q0,none⟩ = some b0 ∧ w'.cell? ⟨N,q1,none⟩ = some b1 :=
 ⟨cell_grown hg h.1 hB,cell_grown hg h.2.1 hB,cell_grown hg h.2.2.1 hB,cell_grown hg h.2.2.2.1 hB,cell_grown hg h.2.2.2.2.1 hB,cell_grown hg h.2.2.2.2.2.1 hB,cell_grown hg h.2.2.2.2.2.2.1 hN,cell_grown hg h.2.2.2.2.2.2.2 hN⟩
theorem zqlh (w:World) (u i:Int) (t:ByteArray) (n e:Nat):Got5 (w.alloc (gotO u i t n e)) w.heap.size u i t n e:=heap_alloc_new w _
set_option maxHeartbeats 1000000 in
theorem zqim (w:World) (N:Nat) (v:Value) (b:List Int) (p:Nat) (d u i m:Int) (f:Nat) (t:ByteArray) (u2 i2:Int) (t2:ByteArray) (n e:Nat) (h:R3 w N v p 0) (hv:Ints .u8 w v b) (hp:p ≤ b.length) (hl:b.length ≤ 20000) (hn:n ≤ 20000)
  (hR:∀ w1 v2,Below w.heap.size w w1 → Ints .u8 w1 v2 (b.drop p) → Calls Tryz.prog 197 #[askV d u i f t m,v2] w1 (RefP u2 i2 t2 n e w1)) :
  Calls Tryz.prog 126 #[.pointer (some ⟨N,0,none⟩),askV d u i f t m] w fun r w' => r = .returned (gotV u2 i2 t2 n e) ∧ R3 w' N v (p + n) e ∧ w.grownBy w' (some N):=by
 have hb2:=zqih w (askO d u i f t m) (gotO 0 0 ⟨#[]⟩ 0 0);obtain ⟨r0,r1,r2⟩:=(h.below hb2).reads;obtain ⟨a,cap,rfl,hc,-⟩:=id hv;obtain ⟨u9,c9,hop,hi9⟩:=zqe7 hv hp;have HI:=zh hi9;have HR:=zh hR;have HR3:=zh (h.below hb2);have HB2:=zh hb2;have ha0:((w.alloc (askO d u i f t m)).alloc (gotO 0 0 ⟨#[]⟩ 0 0)).cell? ⟨w.heap.size,0,none⟩ = some (.int .i64 d) ∧ ((w.alloc (askO d u i f t m)).alloc (gotO 0 0 ⟨#[]⟩ 0 0)).cell? ⟨w.heap.size,1,none⟩ = some (.int .u64 u) ∧ ((w.alloc (askO d u i f t m)).alloc (gotO 0 0 ⟨#[]⟩ 0 0)).cell? ⟨w.heap.size,2,none⟩ = some (.int .i64 i) ∧ ((w.alloc (askO d u i f t m)).alloc (gotO 0 0 ⟨#[]⟩ 0 0)).cell? ⟨w.heap.size,3,none⟩ = some (.float .f64 f) ∧ ((w.alloc (askO d u i f t m)).alloc (gotO 0 0 ⟨#[]⟩ 0 0)).cell? ⟨w.heap.size,4,none⟩ = some (.string t) ∧ ((w.alloc (askO d u i f t m)).alloc (gotO 0 0 ⟨#[]⟩ 0 0)).cell? ⟨w.heap.size,5,none⟩ = some (.int .i64 m):=by
  have hx:=zqab (w.alloc (askO d u i f t m)) (gotO 0 0 ⟨#[]⟩ 0 0);refine ⟨zqar hx ?_,zqar hx ?_,zqar hx ?_,zqar hx ?_,zqar hx ?_,zqar hx ?_⟩ <;> simp [go_sem]
 have hg1:Got5 ((w.alloc (askO d u i f t m)).alloc (gotO 0 0 ⟨#[]⟩ 0 0)) (w.heap.size + 1) 0 0 ⟨#[]⟩ 0 0:=by
  have:=zqlh (w.alloc (askO d u i f t m)) 0 0 ⟨#[]⟩ 0 0;have hz:(w.alloc (askO d u i f t m)).heap.size = w.heap.size + 1:=by simp
  rwa [hz] at this
 have HG1:=zh hg1;have hwz:w.heap.size + 2 = ((w.alloc (askO d u i f t m)).alloc (gotO 0 0 ⟨#[]⟩ 0 0)).heap.size:=by simp
 have hNl:=h.lt;clear h hv hi9 hg1 hR;go_enter Tryz.func126,Tryz.ntmps126;go_upto_region 3 with fail;generalize (w.alloc (askO d u i f t m)).alloc (gotO 0 0 ⟨#[]⟩ 0 0) = W at *;have hk:W.drew.cell? ⟨w.heap.size,0,none⟩ = some (.int .i64 d) ∧ W.drew.cell? ⟨w.heap.size,1,none⟩ = some (.int .u64 u) ∧ W.drew.cell? ⟨w.heap.size,2,none⟩ = some (.int .i64 i) ∧ W.drew.cell? ⟨w.heap.size,3,none⟩ = some (.float .f64 f) ∧ W.drew.cell? ⟨w.heap.size,4,none⟩ = some (.string t) ∧ W.drew.cell? ⟨w.heap.size,5,none⟩ = some (.int .i64 m) ∧ W.drew.cell? ⟨N,0,none⟩ = some (.slice a b.length cap) ∧ W.drew.cell? ⟨N,1,none⟩ = some (.int .i64 p):=⟨by simp [ha0.1],by simp [ha0.2.1],by simp [ha0.2.2.1],by simp [ha0.2.2.2.1],by simp [ha0.2.2.2.2.1],by simp [ha0.2.2.2.2.2],by simp [r0],by simp [r1]⟩
 have hBw:Below w.heap.size w W.drew:=hb2.drew;have hBW:Below W.heap.size W W.drew:=(Below.refl _ _).drew;have hk5:True:=True.intro;have hk0:=And.intro ha0.1 (And.intro ha0.2.1 (And.intro ha0.2.2.1 (And.intro ha0.2.2.2.1 (And.intro ha0.2.2.2.2.1 (And.intro ha0.2.2.2.2.2 (And.intro r0 r1))))));have hKB:w.heap.size ≠ W.heap.size:=by omega
 have hKN:N ≠ W.heap.size:=by have:=HR3.out.lt; omega
 clear ha0 hb2;go_region_held3 (fun w' => w'.cell? ⟨w.heap.size,0,none⟩ = some (.int .i64 d) ∧ w'.cell? ⟨w.heap.size,1,none⟩ = some (.int .u64 u) ∧ w'.cell? ⟨w.heap.size,2,none⟩ = some (.int .i64 i) ∧ w'.cell? ⟨w.heap.size,3,none⟩ = some (.float .f64 f) ∧ w'.cell? ⟨w.heap.size,4,none⟩ = some (.string t) ∧ w'.cell? ⟨w.heap.size,5,none⟩ = some (.int .i64 m) ∧ w'.cell? ⟨N,0,none⟩ = some (.slice a b.length cap) ∧ w'.cell? ⟨N,1,none⟩ = some (.int .i64 p)) ((first | (with_reducible exact hk) | (with_reducible exact zqez (zqab _ _) hk) | (with_reducible exact zqez (zqab _ _).drew hk0) | (with_reducible exact hk5)))
  ((go_at_call 197; refine (HR.out _ _ (by first | (with_reducible exact hBw) | exact zqaa HB2.out (zqab _ _).drew) (by first | (with_reducible exact HI.out.below hBw) | exact HI.out.below (zqaa HB2.out (zqab _ _).drew))).mono ?_; rintro r w2 ⟨rfl,hb3⟩; (first
   | (have kK:Got5 w2 W.heap.size 0 0 ⟨#[]⟩ 0 0:=Got5.below (w:=(W.alloc (gotO 0 0 ⟨#[]⟩ 0 0)).drew) (zqlh W 0 0 ⟨#[]⟩ 0 0) hb3; obtain ⟨z0,z1,z2,z3,z4⟩:=kK.reads; obtain ⟨y0,y1,y2,y3,y4⟩:=kK.free; have hBW:=zqaa (zqab W (gotO 0 0 ⟨#[]⟩ 0 0)).drew hb3; have hk:=zqez hb3 (zqez (zqab _ _).drew hk0); have hk5:=zq11 (zqct w2 W.heap.size u2 i2 t2 n e) hKB hKN hk)
   | (have hBW:=zqaa hBW hb3; have hk:=zqez hb3 hk))))
 ·have HKx:=zh (zqlh w2 u2 i2 t2 n e);have hb9:=zqaa (zqaa hBW (Below.refl _ _)) (zqab w2 (gotO u2 i2 t2 n e));have HG1x:=zh (HG1.out.below hb9);have HR3x:=zh (HR3.out.below hb9);have HGx:=zh (zqaf (zqaa HB2.out hb9) (some N));have hW2:=hBW.size;have hKN:w2.heap.size ≠ N:=by have:=HR3.out.lt; omega
  have hK1:w2.heap.size ≠ w.heap.size + 1:=by omega
  have hKw:w.heap.size ≤ w2.heap.size:=by omega
  generalize hWx:w2.alloc (gotO u2 i2 t2 n e) = Wx at *;obtain ⟨K,hKe⟩:∃ K,w2.heap.size = K:=⟨_,rfl⟩
  rw [hKe] at HKx hKN hK1 hKw ⊢;obtain ⟨k0,k1,k2,k3,k4⟩:=HKx.out.reads;obtain ⟨r0,r1,r2⟩:=HR3x.out.reads;obtain ⟨f1,f2⟩:=HR3x.out.free;clear hk hk5 hk0 hBW hWx hKe;go_upto_region 5 with fail;have hg4:=zqad Wx N 2 (.int .i64 e);have HK4:=zh (HKx.out.grown hg4 hKN);have HG4:=zh (HG1x.out.grown hg4 (by omega))
  have HR4:=zh (HR3x.out.set2 e);have HGR:=zh (zqag HGx.out hg4);generalize Wx.setCell ⟨N,2,none⟩ (.int .i64 e) = W4 at *;clear k0 k1 k2 k3 k4 r0 r1 r2 f1 f2 hg4;obtain ⟨k0,k1,k2,k3,k4⟩:=HK4.out.reads;obtain ⟨r0,r1,r2⟩:=HR4.out.reads;obtain ⟨f1,f2⟩:=HR4.out.free;have i1:IntKind.i64.wrap ((p:Int) + n) = ((p + n:Nat):Int):=by rw [IntWalk.i64_in _ (by omega)]; omega
  go_region;rw [show (p:Int) + (n:Int) = ((p + n:Nat):Int) by omega]
  have hg5:=zqgx (zqad W4 N 1 (.int .i64 ((p + n:Nat):Int)));have HK5:=HK4.out.grown hg5 hKN;have HG5:=HG4.out.grown hg5 (by omega)
  have HR5:R3 (W4.setCell ⟨N,1,none⟩ (.int .i64 ((p + n:Nat):Int))).drew N (.slice a b.length cap) (p + n) e:=HR4.out.set1 (p + n);have HGG:=zqag HGR.out hg5;generalize (W4.setCell ⟨N,1,none⟩ (.int .i64 ((p + n:Nat):Int))).drew = W5 at *;clear k0 k1 k2 k3 k4 r0 r1 r2 f1 f2 hg5;obtain ⟨k0,k1,k2,k3,k4⟩:=HK5.reads;obtain ⟨g0,g1,g2,g3,g4⟩:=HG5.reads;obtain ⟨f0,f1,f2,f3,f4⟩:=HG5.free;have HR6:=zh (HR5.grown (zqct W5 (w.heap.size + 1) u2 i2 t2 n e) (by omega))
  have HG6:=zh (zqhs HGG (zqct W5 (w.heap.size + 1) u2 i2 t2 n e) (by omega))
  obtain ⟨q0,q1,q2,q3,q4⟩:=(zqjj (u':=u2) (i':=i2) (t':=t2) (n':=n) (e':=e) HG5).reads;clear HK5 HG5 HR5 HGG;unfold five at HR6 HG6 q0 q1 q2 q3 q4;go_wp2_with fail;exact bodyPost_ret (v:=gotV u2 i2 t2 n e) (by simp [results,Tryz.results126,q0,q1,q2,q3,q4,go_sem]) rfl ⟨rfl,HR6.out,HG6.out⟩
 ·have HKx:=zh (zqjj (u':=u2) (i':=i2) (t':=t2) (n':=n) (e':=e) kK);have hgf:=zqct w2 W.heap.size u2 i2 t2 n e;have HG1x:=zh ((HG1.out.below hBW).grown hgf (by omega))
  have HR3x:=zh ((HR3.out.below hBW).grown hgf hKN);have HGx:=zh (zqhs (zqaf (zqaa HB2.out hBW) (some N)) hgf (by omega))
  have hKN:W.heap.size ≠ N:=fun e => hKN e.symm
  have hK1:W.heap.size ≠ w.heap.size + 1:=by omega
  have hKw:w.heap.size ≤ W.heap.size:=by omega
  unfold five at HKx HG1x HR3x HGx;clear kK z0 z1 z2 z3 z4 y0 y1 y2 y3 y4 hgf;generalize hWx:((((w2.setCell ⟨W.heap.size,0,none⟩ (.int .u64 u2)).setCell ⟨W.heap.size,1,none⟩ (.int .i64 i2)).setCell ⟨W.heap.size,2,none⟩ (.string t2)).setCell ⟨W.heap.size,3,none⟩ (.int .i64 n)).setCell ⟨W.heap.size,4,none⟩ (.int .i64 e) = Wx at *;obtain ⟨K,hKe⟩:∃ K,W.heap.size = K:=⟨_,rfl⟩
  rw [hKe] at HKx hKN hK1 hKw ⊢;obtain ⟨k0,k1,k2,k3,k4⟩:=HKx.out.reads;obtain ⟨r0,r1,r2⟩:=HR3x.out.reads;obtain ⟨f1,f2⟩:=HR3x.out.free;clear hk hk5 hk0 hBW hWx hKe;go_upto_region 5 with fail;have hg4:=zqad Wx N 2 (.int .i64 e);have HK4:=zh (HKx.out.grown hg4 hKN);have HG4:=zh (HG1x.out.grown hg4 (by omega))
  have HR4:=zh (HR3x.out.set2 e);have HGR:=zh (zqag HGx.out hg4);generalize Wx.setCell ⟨N,2,none⟩ (.int .i64 e) = W4 at *;clear k0 k1 k2 k3 k4 r0 r1 r2 f1 f2 hg4;obtain ⟨k0,k1,k2,k3,k4⟩:=HK4.out.reads;obtain ⟨r0,r1,r2⟩:=HR4.out.reads;obtain ⟨f1,f2⟩:=HR4.out.free;have i1:IntKind.i64.wrap ((p:Int) + n) = ((p + n:Nat):Int):=by rw [IntWalk.i64_in _ (by omega)]; omega
  go_region;rw [show (p:Int) + (n:Int) = ((p + n:Nat):Int) by omega]
  have hg5:=zqgx (zqad W4 N 1 (.int .i64 ((p + n:Nat):Int)));have HK5:=HK4.out.grown hg5 hKN;have HG5:=HG4.out.grown hg5 (by omega)
  have HR5:R3 (W4.setCell ⟨N,1,none⟩ (.int .i64 ((p + n:Nat):Int))).drew N (.slice a b.length cap) (p + n) e:=HR4.out.set1 (p + n);have HGG:=zqag HGR.out hg5;generalize (W4.setCell ⟨N,1,none⟩ (.int .i64 ((p + n:Nat):Int))).drew = W5 at *;clear k0 k1 k2 k3 k4 r0 r1 r2 f1 f2 hg5;obtain ⟨k0,k1,k2,k3,k4⟩:=HK5.reads;obtain ⟨g0,g1,g2,g3,g4⟩:=HG5.reads;obtain ⟨f0,f1,f2,f3,f4⟩:=HG5.free;have HR6:=zh (HR5.grown (zqct W5 (w.heap.size + 1) u2 i2 t2 n e) (by omega))
  have HG6:=zh (zqhs HGG (zqct W5 (w.heap.size + 1) u2 i2 t2 n e) (by omega))
  obtain ⟨q0,q1,q2,q3,q4⟩:=(zqjj (u':=u2) (i':=i2) (t':=t2) (n':=n) (e':=e) HG5).reads;clear HK5 HG5 HR5 HGG;unfold five at HR6 HG6 q0 q1 q2 q3 q4;go_wp2_with fail;exact bodyPost_ret (v:=gotV u2 i2 t2 n e) (by simp [results,Tryz.results126,q0,q1,q2,q3,q4,go_sem]) rfl ⟨rfl,HR6.out,HG6.out⟩
set_option maxRecDepth 100000
open Go.RowKit
set_option linter.unusedVariables false
theorem zq3m {most:Int} {b:List Int} (hb:Bt b):((uN most (getU b)).2.2 ≠ 0 → (uN most (getU b)).2.1 = 0) ∧ (uN most (getU b)).2.1 ≤ b.length:=by
 have h1:=zqk6 most hb;have h2:(uN most (getU b)).2.2 ≠ 0 → (uN most (getU b)).2.1 = 0:=by
  intro h;unfold uN at h ⊢
  split
  ·rfl
  ·rename_i q;rw [if_neg q] at h;exact (zqhr h).2
 refine ⟨h2,?_⟩
 by_cases he:(uN most (getU b)).2.2 = 0
 ·exact h1.2.1 he
 ·rw [h2 he]; exact Nat.zero_le _
theorem got_u (u i:Int) (t:ByteArray) (n e:Int) (w:World):(Instr.field 186 (gotV u i t n e) 0).run Tryz.prog w = .ok (.int .u64 u) w:=by kernel_rfl
set_option maxHeartbeats 1000000 in
theorem zqf1 (w:World) (N:Nat) (v:Value) (b:List Int) (s:Nat × Nat) (most:Int) (h:R3 w N v s.1 s.2) (hv:Ints .u8 w v b) (hb:Bt b) (hl:b.length ≤ 20000) (hs:OkSt b s) :
  Calls Tryz.prog 124 #[.pointer (some ⟨N,0,none⟩),.int .u64 most] w fun r w' => r = .returned (.int .u64 (stU b most s).1) ∧ R3 w' N v (stU b most s).2.1 (stU b most s).2.2 ∧ w.grownBy w' (some N):=by
 obtain ⟨p,e⟩:=s;have hp:p ≤ b.length:=hs.1;simp only at h;unfold stU
 by_cases he:e = 0
 ·subst he;rw [if_pos rfl];simp only;have hn:=zq3m (most:=most) (hb.drop p);rw [List.length_drop] at hn;have HA:=zh (zqim w N v b p 0 most 0 0 0 ⟨#[]⟩ (uN most (getU (b.drop p))).1 0 ⟨#[]⟩ (uN most (getU (b.drop p))).2.1 (uN most (getU (b.drop p))).2.2 h hv hp hl (by omega)
   (fun w1 v2 hb1 hi => zqz5 w1 v2 (b.drop p) most 0 0 0 ⟨#[]⟩ hi (hb.drop p) (by rw [List.length_drop]; omega)))
  have HE:=zh (show p + (uN most (getU (b.drop p))).2.1 = if (uN most (getU (b.drop p))).2.2 = 0 then p + (uN most (getU (b.drop p))).2.1 else p by
   split
   ·rfl
   ·rename_i q; rw [hn.1 q]; rfl)
  generalize uN most (getU (b.drop p)) = R at *;generalize (if R.2.2 = 0 then p + R.2.1 else p) = q at HE ⊢
  clear hn h hv hs hp hl;have hfd:=got_u;go_enter Tryz.func124,Tryz.ntmps124;go_wp2_with fail;refine (HA.out).mono ?_; rintro r w1 ⟨rfl,hr,hg⟩;rw [HE.out] at hr;have HR:=zh (And.intro hr hg);clear hr hg HE;go_wp2_with fail;go_ret;exact ⟨rfl,HR.out.1,HR.out.2⟩
 ·rw [if_neg he];simp only;have HA:=zh (zqj1 w N v p e 0 most 0 0 0 ⟨#[]⟩ h he);have HR:=zh (fun w' (hb:Below w.heap.size w w') => h.below hb)
  clear h hv hs hp hl he;have hfd:=got_u;go_enter Tryz.func124,Tryz.ntmps124;go_wp2_with fail;refine (HA.out).mono ?_; rintro r w1 ⟨rfl,hb1⟩;have HB:=zh hb1;clear hb1;go_wp2_with fail;go_ret;exact ⟨rfl,HR.out _ HB.out,zqaf HB.out _⟩
set_option maxRecDepth 100000
open Go.RowKit
set_option linter.unusedVariables false
theorem R3.own {w w':World} {N:Nat} {v0:Value} {p e B E sz n:Nat} {v:Value} {xs:List Value} (h:R3 w N v0 p e) (ho:w.ownsRow B E sz v n xs) (hN:N < B) (hg:w.grownBy w' v.ownBlock):R3 w' N v0 p e:=by
 rcases ho.2 with ⟨rfl,-⟩ | ⟨g,cap,cur,rfl,h2,h3,-⟩
 ·exact h.below ((Below.refl _ _).grown hg (Nat.le_refl _) (fun k hk => by simp [Value.ownBlock] at hk))
 ·exact h.grown (K:=g) hg (by omega)
set_option maxRecDepth 100000
open Go.RowKit
set_option linter.unusedVariables false
end Go.Proofs.YtpgchfihedcdkaaGreatDoor
namespace Go.Proofs.YtpgchfihedcdkaaGreatDoor
set_option maxRecDepth 100000
open Go.RowKit
set_option linter.unusedVariables false
def keyK (b:List Int) (s:Nat × Nat):Int:=if s.2 = 0 then (fN (getF (b.drop s.1))).1 else 0
theorem zq2j {b:List Int} {s:Nat × Nat} (h:(stF b s).2.2 = 0):(stF b s).1 = fromN (keyK b s) ∧ Keyed (keyK b s) ∨ s.2 ≠ 0:=by
 unfold stF keyK at *
 by_cases h0:s.2 = 0
 ·left;rw [if_pos h0] at h ⊢;rw [if_pos h0];simp only at h ⊢;rw [if_pos h];unfold fN;rw [if_pos h];refine ⟨rfl,?_⟩;unfold getF at h ⊢
  by_cases h8:8 ≤ (b.drop s.1).length
  ·rw [if_pos h8] at h ⊢
   by_cases hk:Keyed (fillN (b.drop s.1) 0 8)
   ·rw [if_pos hk]; exact hk
   ·rw [if_neg hk] at h; simp at h
  ·rw [if_neg h8] at h
   split at h <;> simp at h
 ·exact .inr h0
theorem zqxv (w:World) (N:Nat) (v:Value) (b:List Int) (s:Nat × Nat) (u i m:Int) (f:Nat) (t:ByteArray) (h:R3 w N v s.1 s.2) (hv:Ints .u8 w v b) (hb:Bt b) (hl:b.length ≤ 20000) (hs:OkSt b s) :
  Calls Tryz.prog 126 #[.pointer (some ⟨N,0,none⟩),askV 1 u i f t m] w fun r w' => (∃ n e:Nat,r = .returned (gotV 0 (stI b s).1 ⟨#[]⟩ n e)) ∧ R3 w' N v (stI b s).2.1 (stI b s).2.2 ∧ w.grownBy w' (some N):=by
 obtain ⟨p,e⟩:=s;have hp:p ≤ b.length:=hs.1;simp only at h;unfold stI
 by_cases he:e = 0
 ·subst he;rw [if_pos rfl];simp only;have hn:=zqgv (b:=b.drop p);rw [List.length_drop] at hn;have hz:∀ h:(getI (b.drop p)).2.2 ≠ 0,(getI (b.drop p)).2.1 = 0:=fun h => (zqfb h).2
  have hle:(getI (b.drop p)).2.1 ≤ 20000:=by
   by_cases q:(getI (b.drop p)).2.2 = 0
   ·have:=hn.1 q; omega
   ·rw [hz q]; omega
  refine (zqim w N v b p 1 u i m f t 0 (getI (b.drop p)).1 ⟨#[]⟩ (getI (b.drop p)).2.1 (getI (b.drop p)).2.2 h hv hp hl hle
   (fun w1 v2 hb1 hi => zqz6 w1 v2 (b.drop p) u i m f t hi (hb.drop p) (by rw [List.length_drop]; omega))).mono ?_
  rintro r w1 ⟨rfl,hr,hg⟩;refine ⟨⟨_,_,rfl⟩,?_,hg⟩
  split
  ·exact hr
  ·rename_i q; rw [hz q] at hr; exact hr
 ·rw [if_neg he];simp only;refine (zqj1 w N v p e 1 u i m f t h he).mono ?_;rintro r w1 ⟨rfl,hb1⟩;exact ⟨⟨0,0,rfl⟩,h.below hb1,zqaf hb1 _⟩
end Go.Proofs.YtpgchfihedcdkaaGreatDoor
namespace Go.Proofs.YtpgchfihedcdkaaGreatDoor
set_option maxRecDepth 100000
open Go.RowKit
set_option linter.unusedVariables false
theorem zqhu (w:World) (N:Nat) (b:List Int) (s:Nat × Nat) (h:InAt w N b s.1 s.2) (h9:s.2 < 9) :
  Calls Tryz.prog 105 #[.pointer (some ⟨N,0,none⟩)] w fun r w' => r = .returned (.int .i64 (stI b s).1) ∧ InAt w' N b (stI b s).2.1 (stI b s).2.2 ∧ w.grownBy w' (some N):=by
 obtain ⟨p,e⟩:=s;simp only at h h9;unfold stI
 by_cases he:e = 0
 ·subst he;rw [if_pos rfl];refine (zq1q w N b p h).mono ?_;rintro r w' ⟨⟨v,rfl,rfl⟩,h2,h3⟩;exact ⟨rfl,h2,h3⟩
 ·rw [if_neg he];refine (zqyz w _ e (h.shut he (by omega))).mono ?_
  rintro r w' ⟨rfl,hb⟩;exact ⟨rfl,h.below hb,zqaf hb _⟩
theorem zqu4 (w:World) (N:Nat) (b:List Int) (s:Nat × Nat) (h:InAt w N b s.1 s.2) (h9:s.2 < 9) :
  Calls Tryz.prog 108 #[.pointer (some ⟨N,0,none⟩)] w fun r w' => r = .returned (.float .f64 (stF b s).1) ∧ InAt w' N b (stF b s).2.1 (stF b s).2.2 ∧ w.grownBy w' (some N):=by
 obtain ⟨p,e⟩:=s;simp only at h h9;unfold stF
 by_cases he:e = 0
 ·subst he;rw [if_pos rfl];refine (zq1p w N b p h).mono ?_;rintro r w' ⟨⟨v,rfl,rfl⟩,h2,h3⟩;simp only;unfold fN at *
  by_cases q:(getF (b.drop p)).2 = 0
  ·rw [if_pos q] at h2 ⊢;simp only [if_true] at h2 ⊢;rw [if_pos q,if_pos q,q];exact ⟨rfl,h2,h3⟩
  ·rw [if_neg q] at h2 ⊢;simp only [if_neg q] at h2 ⊢;exact ⟨True.intro,h2,h3⟩
 ·rw [if_neg he];refine (zqyy w _ e (h.shut he (by omega))).mono ?_
  rintro r w' ⟨rfl,hb⟩;exact ⟨rfl,h.below hb,zqaf hb _⟩
set_option maxRecDepth 100000
open Go.RowKit
set_option linter.unusedVariables false
set_option maxRecDepth 100000
open Go.RowKit
set_option linter.unusedVariables false
theorem zqyg (w:World) (N:Nat) (b:List Int) (s:Nat × Nat) (h:InAt w N b s.1 s.2) (h9:s.2 < 9) :
  Calls Tryz.prog 54 #[.pointer (some ⟨N,0,none⟩)] w fun r w' => (∃ p:Int,r = .returned (.tuple #[.int .i64 p,.int .i64 s.2])) ∧ w = w':=by
 obtain ⟨p,e⟩:=s;simp only at h h9
 by_cases he:e = 0
 ·subst he;refine (zqyf w N b p h).mono ?_;rintro r w' ⟨rfl,rfl⟩;exact ⟨⟨0,rfl⟩,rfl⟩
 ·refine (zqul w N b p e h he h9).mono ?_;rintro r w' ⟨rfl,rfl⟩;exact ⟨⟨p,rfl⟩,rfl⟩
set_option maxRecDepth 100000
open Go.RowKit
set_option linter.unusedVariables false
end Go.Proofs.YtpgchfihedcdkaaGreatDoor
namespace Go.Proofs.YtpgchfihedcdkaaGreatDoor
set_option maxRecDepth 100000
open Go.RowKit
set_option linter.unusedVariables false
theorem zqkg {z:Nat} {e:Int} (hc:Canon z e) (he:e ≤ 971) (h0:z ≠ 0):nearW z e = rungOf z e:=by
 have hlz:=zqdw hc.1;have hL:bitsZ (z:Int) = z.log2 + 1:=by unfold bitsZ; rw [if_neg (by omega),Int.toNat_natCast]
 have hq0:=hc.2.1;have hb:=zqd2 h0;unfold nearW;rw [if_neg (by omega),if_neg (by omega)]
 obtain ⟨f1,f2,f3,f4,f5⟩:=zqgz (e:=e) hb (by omega) (by omega)
 have hu:rU (bitsZ (z:Int)) e ≤ e:=by unfold rU; omega
 refine (fvc hc he).nearest ?_;exact ⟨(e - rU (bitsZ (z:Int)) e).toNat,.inr ⟨by omega,(f4 hu).1⟩⟩
theorem zqoy {m:Nat} (h:m < 4503599627370496):nearW m (-1074) = m:=by
 by_cases h0:m = 0
 ·subst h0; unfold nearW; rw [if_pos (.inl rfl)]
 ·rw [zqkg ⟨by omega,by omega,.inr rfl⟩ (by omega) h0]
  unfold rungOf;simp
theorem zqox {m E:Nat} (h:m < 4503599627370496) (h1:1 ≤ E) (h2:E ≤ 2046):nearW (m + 4503599627370496) ((E:Int) - 1075) = E * 4503599627370496 + m:=by
 rw [zqkg ⟨by omega,by omega,.inl (by omega)⟩ (by omega) (by omega)]
 unfold rungOf;have e:((E:Int) - 1075 + 1074).toNat = E - 1:=by omega
 rw [e];omega
theorem zqej {z:Nat} (h:z < 9007199254740992):bitsZ (z:Int) ≤ 400:=by
 by_cases h0:z = 0
 ·subst h0; decide
 ·have hlz:=zqdw h;unfold bitsZ;rw [if_neg (by omega),Int.toNat_natCast]
  omega
def FloatP (w:World) (K:Int) (r:Ending) (w':World):Prop:=(∃ x:Nat,r = .returned (.float .f64 x) ∧ W64 x ∧ keyI x = K) ∧ Below w.heap.size w w'
theorem zqsj {x:Nat} (h:isNaNB x = true):keyI x = 18446744073709551615:=by unfold keyI; rw [if_pos h]
theorem divnan {P:Program} (t:TypeId) (w:World):(binOp .quo t (.float .f64 0) (.float .f64 0)).run P w = .ok (.float .f64 (nanOf w 0)) w.drew:=by
 have h2:FloatKind.f64.format.div 0 0 = none:=by decide +kernel
 simp [binOp,Op.floatArith,h2,nanOf,Question.forced]
theorem zqho {K:Int} {R:Nat} (h0:4503599627370495 ≤ K) (h1:K < 9223372036854775808) (hR:(R:Int) = 9223372036854775807 - K):W64 (flipN R) ∧ keyI (flipN R) = K:=by
 have hk:Keyed K:=.inr ⟨h0,by omega⟩
 have e:flipN R = fromN K:=by
  have e1:fromN K = (18446744073709551615 - K).toNat:=by unfold fromN; rw [if_neg (by omega),if_neg (by omega)]
  rw [e1];unfold flipN
  split <;> omega
 rw [e];exact ⟨(zqbw hk).1,(zqbw hk).2.1⟩
theorem zqhp {K:Int} {R:Nat} (h0:9223372036854775808 ≤ K) (h1:K ≤ 18442240474082181120) (hR:(R:Int) = K - 9223372036854775808):W64 R ∧ keyI R = K:=by
 have hk:Keyed K:=.inr ⟨by omega,h1⟩
 have e:R = fromN K:=by
  unfold fromN;rw [if_neg (by omega),if_pos (by omega)]
  omega
 rw [e];exact ⟨(zqbw hk).1,(zqbw hk).2.1⟩
set_option maxHeartbeats 2000000 in
theorem zquv (w:World):Calls Tryz.prog 198 #[.int .u64 18446744073709551615] w (FloatP w 18446744073709551615):=by
 have hop:=fun t w => divnan (P:=Tryz.prog) t w
 go_enter Tryz.func198,Tryz.ntmps198;go_wp2_with (simp only [hop]);go_ret;exact ⟨⟨_,rfl,(zqfj _ _).2,zqsj (zqfj _ _).1⟩,(Below.refl _ _).drew⟩
set_option maxHeartbeats 4000000 in
theorem zqnj (w:World) (K:Int) (R E m:Nat) (h0:4503599627370495 ≤ K) (h1:K < 9223372036854775808) (hR:(R:Int) = 9223372036854775807 - K) (hRm:R ≤ 9218868437227405312) (hE:R = E * 4503599627370496 + m) (hm:m < 4503599627370496) (hc:E = 2047) :
  Calls Tryz.prog 198 #[.int .u64 K] w (FloatP w K):=by
 have hv:=zqho h0 h1 hR;have k0:(K == 18446744073709551615) = false:=by rw [beq_eq_false_iff_ne]; omega
 have k1:decide (K < 9223372036854775808) = true:=decide_eq_true h1;have kR:IntKind.u64.wrap (9223372036854775807 - K) = (R:Int):=by rw [IntKind.wrap_u64]; omega
 obtain ⟨Q,hQ⟩:∃ Q,IntKind.u64.wrap (K - 9223372036854775808) = Q:=⟨_,rfl⟩
 have d1:(R:Int) / 4503599627370496 = (E:Int):=by omega
 have d2:(R:Int) % 4503599627370496 = (m:Int):=by omega
 have d3:(R:Int).tdiv 4503599627370496 = (E:Int):=by rw [Int.tdiv_eq_ediv_of_nonneg (by omega)]; exact d1
 have d4:(R:Int).tmod 4503599627370496 = (m:Int):=by rw [Int.tmod_eq_emod_of_nonneg (by omega)]; exact d2
 have i1:IntKind.i64.wrap (E:Int) = (E:Int):=IntWalk.i64_in _ (by omega)
 have hW:W64 R:=by unfold W64; omega
 have hU:∀ w,(Op.unary .neg (.float .f64 R)).run Tryz.prog w = .ok (.float .f64 (flipN R)) w:=fun w => zqdz R hW w
 have hRi:R = 9218868437227405312:=by omega
 have hf:floatBits .quo .f64 4607182418800017408 0 = some 9218868437227405312:=by decide +kernel
 have hop:∀ t w,(binOp .quo t (.float .f64 4607182418800017408) (.float .f64 0)).run Tryz.prog w = .ok (.float .f64 9218868437227405312) w:=fun t w => run_float_arith w .quo t .f64 _ _ _ hf
 have e1:((E:Int) == 2047) = true:=by rw [hc]; rfl
 rw [hRi] at hU;have HV:=zh hv;clear hR hE hv hf hc;go_enter Tryz.func198,Tryz.ntmps198;go_wp2_with (simp only [hop,hU]);go_ret;exact ⟨⟨_,rfl,by have:=HV.out; rwa [hRi] at this⟩,Below.refl _ _⟩
set_option maxHeartbeats 4000000 in
theorem zqnk (w:World) (K:Int) (R E m:Nat) (h0:4503599627370495 ≤ K) (h1:K < 9223372036854775808) (hR:(R:Int) = 9223372036854775807 - K) (hRm:R ≤ 9218868437227405312) (hE:R = E * 4503599627370496 + m) (hm:m < 4503599627370496) (hc:E = 0) :
  Calls Tryz.prog 198 #[.int .u64 K] w (FloatP w K):=by
 have hv:=zqho h0 h1 hR;have k0:(K == 18446744073709551615) = false:=by rw [beq_eq_false_iff_ne]; omega
 have k1:decide (K < 9223372036854775808) = true:=decide_eq_true h1;have kR:IntKind.u64.wrap (9223372036854775807 - K) = (R:Int):=by rw [IntKind.wrap_u64]; omega
 obtain ⟨Q,hQ⟩:∃ Q,IntKind.u64.wrap (K - 9223372036854775808) = Q:=⟨_,rfl⟩
 have d1:(R:Int) / 4503599627370496 = (E:Int):=by omega
 have d2:(R:Int) % 4503599627370496 = (m:Int):=by omega
 have d3:(R:Int).tdiv 4503599627370496 = (E:Int):=by rw [Int.tdiv_eq_ediv_of_nonneg (by omega)]; exact d1
 have d4:(R:Int).tmod 4503599627370496 = (m:Int):=by rw [Int.tmod_eq_emod_of_nonneg (by omega)]; exact d2
 have i1:IntKind.i64.wrap (E:Int) = (E:Int):=IntWalk.i64_in _ (by omega)
 have hW:W64 R:=by unfold W64; omega
 have hU:∀ w,(Op.unary .neg (.float .f64 R)).run Tryz.prog w = .ok (.float .f64 (flipN R)) w:=fun w => zqdz R hW w
 have e1:((E:Int) == 2047) = false:=by rw [hc]; rfl
 have e2:((E:Int) == 0) = true:=by rw [hc]; rfl
 have hRe:nearW m (-1074) = R:=by rw [zqoy hm]; omega
 have HNt:=zh (zqbo (m:Int) w (by omega) (by omega))
 have HJ:=zh (fun w1 v (h:IsNum w1 v (m:Int)) => zqfn false v m (-1074) w1 h (zqej (by omega)) (by omega) (by omega))
 rw [hRe] at HJ;have HV:=zh hv;clear hR hE hv hRe hc;go_enter Tryz.func198,Tryz.ntmps198;go_wp2_with fail;refine (HNt.out).mono ?_; rintro r w1 hr;obtain ⟨v,rfl,hn,hb1⟩:=hr;have HNu:=zh (And.intro hn hb1);obtain ⟨nb,np,nl,nc,rfl⟩:=hn.shape;clear hn hb1;go_wp2_with fail;refine (HJ.out _ _ HNu.out.1).mono ?_; rintro r w2 ⟨rfl,hb2⟩;have HB2:=zh (zqaa HNu.out.2 hb2);clear hb2;go_wp2_with (simp only [signN,Bool.false_eq_true,if_false]);go_ret;exact ⟨⟨_,rfl,HV.out⟩,HB2.out⟩
set_option maxHeartbeats 4000000 in
theorem zqlf (w:World) (K:Int) (R E m:Nat) (h0:4503599627370495 ≤ K) (h1:K < 9223372036854775808) (hR:(R:Int) = 9223372036854775807 - K) (hRm:R ≤ 9218868437227405312) (hE:R = E * 4503599627370496 + m) (hm:m < 4503599627370496) (hc:1 ≤ E ∧ E ≤ 2046) :
  Calls Tryz.prog 198 #[.int .u64 K] w (FloatP w K):=by
 have hv:=zqho h0 h1 hR;have k0:(K == 18446744073709551615) = false:=by rw [beq_eq_false_iff_ne]; omega
 have k1:decide (K < 9223372036854775808) = true:=decide_eq_true h1;have kR:IntKind.u64.wrap (9223372036854775807 - K) = (R:Int):=by rw [IntKind.wrap_u64]; omega
 obtain ⟨Q,hQ⟩:∃ Q,IntKind.u64.wrap (K - 9223372036854775808) = Q:=⟨_,rfl⟩
 have d1:(R:Int) / 4503599627370496 = (E:Int):=by omega
 have d2:(R:Int) % 4503599627370496 = (m:Int):=by omega
 have d3:(R:Int).tdiv 4503599627370496 = (E:Int):=by rw [Int.tdiv_eq_ediv_of_nonneg (by omega)]; exact d1
 have d4:(R:Int).tmod 4503599627370496 = (m:Int):=by rw [Int.tmod_eq_emod_of_nonneg (by omega)]; exact d2
 have i1:IntKind.i64.wrap (E:Int) = (E:Int):=IntWalk.i64_in _ (by omega)
 have hW:W64 R:=by unfold W64; omega
 have hU:∀ w,(Op.unary .neg (.float .f64 R)).run Tryz.prog w = .ok (.float .f64 (flipN R)) w:=fun w => zqdz R hW w
 have e1:((E:Int) == 2047) = false:=by rw [beq_eq_false_iff_ne]; omega
 have e2:((E:Int) == 0) = false:=by rw [beq_eq_false_iff_ne]; omega
 have e3:wrap64 ((E:Int) - 1075) = (E:Int) - 1075:=wrap64_in (by omega) (by omega)
 have e4:IntKind.i64.wrap ((E:Int) - 1075) = (E:Int) - 1075:=IntWalk.i64_in _ (by omega)
 have e5:IntKind.u64.wrap ((m:Int) + 4503599627370496) = (m:Int) + 4503599627370496:=by rw [IntKind.wrap_u64]; omega
 have hRe:nearW (m + 4503599627370496) ((E:Int) - 1075) = R:=by rw [zqox hm hc.1 hc.2]; omega
 have HNt:=zh (zqbo ((m:Int) + 4503599627370496) w (by omega) (by omega))
 have HJ:=zh (fun w1 v (h:IsNum w1 v ((m:Int) + 4503599627370496)) => zqfn false v (m + 4503599627370496) ((E:Int) - 1075) w1 (by rw [Int.natCast_add]; exact h) (zqej (by omega)) (by omega) (by omega))
 rw [hRe] at HJ;have HV:=zh hv;clear hR hE hv hRe hc;go_enter Tryz.func198,Tryz.ntmps198;go_wp2_with fail;refine (HNt.out).mono ?_; rintro r w1 hr;obtain ⟨v,rfl,hn,hb1⟩:=hr;have HNu:=zh (And.intro hn hb1);obtain ⟨nb,np,nl,nc,rfl⟩:=hn.shape;clear hn hb1;go_wp2_with fail;refine (HJ.out _ _ HNu.out.1).mono ?_; rintro r w2 ⟨rfl,hb2⟩;have HB2:=zh (zqaa HNu.out.2 hb2);clear hb2;go_wp2_with (simp only [signN,Bool.false_eq_true,if_false]);go_ret;exact ⟨⟨_,rfl,HV.out⟩,HB2.out⟩
set_option maxHeartbeats 4000000 in
theorem zqnl (w:World) (K:Int) (R E m:Nat) (h0:9223372036854775808 ≤ K) (h1:K ≤ 18442240474082181120) (hR:(R:Int) = K - 9223372036854775808) (hRm:R ≤ 9218868437227405312) (hE:R = E * 4503599627370496 + m) (hm:m < 4503599627370496) (hc:E = 2047) :
  Calls Tryz.prog 198 #[.int .u64 K] w (FloatP w K):=by
 have hv:=zqhp h0 h1 hR;have k0:(K == 18446744073709551615) = false:=by rw [beq_eq_false_iff_ne]; omega
 have k1:decide (K < 9223372036854775808) = false:=decide_eq_false (by omega)
 have kR:IntKind.u64.wrap (K - 9223372036854775808) = (R:Int):=by rw [IntKind.wrap_u64]; omega
 skip
 have d1:(R:Int) / 4503599627370496 = (E:Int):=by omega
 have d2:(R:Int) % 4503599627370496 = (m:Int):=by omega
 have d3:(R:Int).tdiv 4503599627370496 = (E:Int):=by rw [Int.tdiv_eq_ediv_of_nonneg (by omega)]; exact d1
 have d4:(R:Int).tmod 4503599627370496 = (m:Int):=by rw [Int.tmod_eq_emod_of_nonneg (by omega)]; exact d2
 have i1:IntKind.i64.wrap (E:Int) = (E:Int):=IntWalk.i64_in _ (by omega)
 have hRi:R = 9218868437227405312:=by omega
 have hf:floatBits .quo .f64 4607182418800017408 0 = some 9218868437227405312:=by decide +kernel
 have hop:∀ t w,(binOp .quo t (.float .f64 4607182418800017408) (.float .f64 0)).run Tryz.prog w = .ok (.float .f64 9218868437227405312) w:=fun t w => run_float_arith w .quo t .f64 _ _ _ hf
 have e1:((E:Int) == 2047) = true:=by rw [hc]; rfl
 have HV:=zh hv;clear hR hE hv hf hc;go_enter Tryz.func198,Tryz.ntmps198;go_wp2_with (simp only [hop]);go_ret;exact ⟨⟨_,rfl,by have:=HV.out; rwa [hRi] at this⟩,Below.refl _ _⟩
set_option maxHeartbeats 4000000 in
theorem zqnm (w:World) (K:Int) (R E m:Nat) (h0:9223372036854775808 ≤ K) (h1:K ≤ 18442240474082181120) (hR:(R:Int) = K - 9223372036854775808) (hRm:R ≤ 9218868437227405312) (hE:R = E * 4503599627370496 + m) (hm:m < 4503599627370496) (hc:E = 0) :
  Calls Tryz.prog 198 #[.int .u64 K] w (FloatP w K):=by
 have hv:=zqhp h0 h1 hR;have k0:(K == 18446744073709551615) = false:=by rw [beq_eq_false_iff_ne]; omega
 have k1:decide (K < 9223372036854775808) = false:=decide_eq_false (by omega)
 have kR:IntKind.u64.wrap (K - 9223372036854775808) = (R:Int):=by rw [IntKind.wrap_u64]; omega
 skip
 have d1:(R:Int) / 4503599627370496 = (E:Int):=by omega
 have d2:(R:Int) % 4503599627370496 = (m:Int):=by omega
 have d3:(R:Int).tdiv 4503599627370496 = (E:Int):=by rw [Int.tdiv_eq_ediv_of_nonneg (by omega)]; exact d1
 have d4:(R:Int).tmod 4503599627370496 = (m:Int):=by rw [Int.tmod_eq_emod_of_nonneg (by omega)]; exact d2
 have i1:IntKind.i64.wrap (E:Int) = (E:Int):=IntWalk.i64_in _ (by omega)
 have e1:((E:Int) == 2047) = false:=by rw [hc]; rfl
 have e2:((E:Int) == 0) = true:=by rw [hc]; rfl
 have hRe:nearW m (-1074) = R:=by rw [zqoy hm]; omega
 have HNt:=zh (zqbo (m:Int) w (by omega) (by omega))
 have HJ:=zh (fun w1 v (h:IsNum w1 v (m:Int)) => zqfn false v m (-1074) w1 h (zqej (by omega)) (by omega) (by omega))
 rw [hRe] at HJ;have HV:=zh hv;clear hR hE hv hRe hc;go_enter Tryz.func198,Tryz.ntmps198;go_wp2_with fail;refine (HNt.out).mono ?_; rintro r w1 hr;obtain ⟨v,rfl,hn,hb1⟩:=hr;have HNu:=zh (And.intro hn hb1);obtain ⟨nb,np,nl,nc,rfl⟩:=hn.shape;clear hn hb1;go_wp2_with fail;refine (HJ.out _ _ HNu.out.1).mono ?_; rintro r w2 ⟨rfl,hb2⟩;have HB2:=zh (zqaa HNu.out.2 hb2);clear hb2;go_wp2_with (simp only [signN,Bool.false_eq_true,if_false]);go_ret;exact ⟨⟨_,rfl,HV.out⟩,HB2.out⟩
set_option maxHeartbeats 4000000 in
theorem zqlg (w:World) (K:Int) (R E m:Nat) (h0:9223372036854775808 ≤ K) (h1:K ≤ 18442240474082181120) (hR:(R:Int) = K - 9223372036854775808) (hRm:R ≤ 9218868437227405312) (hE:R = E * 4503599627370496 + m) (hm:m < 4503599627370496) (hc:1 ≤ E ∧ E ≤ 2046) :
  Calls Tryz.prog 198 #[.int .u64 K] w (FloatP w K):=by
 have hv:=zqhp h0 h1 hR;have k0:(K == 18446744073709551615) = false:=by rw [beq_eq_false_iff_ne]; omega
 have k1:decide (K < 9223372036854775808) = false:=decide_eq_false (by omega)
 have kR:IntKind.u64.wrap (K - 9223372036854775808) = (R:Int):=by rw [IntKind.wrap_u64]; omega
 skip
 have d1:(R:Int) / 4503599627370496 = (E:Int):=by omega
 have d2:(R:Int) % 4503599627370496 = (m:Int):=by omega
 have d3:(R:Int).tdiv 4503599627370496 = (E:Int):=by rw [Int.tdiv_eq_ediv_of_nonneg (by omega)]; exact d1
 have d4:(R:Int).tmod 4503599627370496 = (m:Int):=by rw [Int.tmod_eq_emod_of_nonneg (by omega)]; exact d2
 have i1:IntKind.i64.wrap (E:Int) = (E:Int):=IntWalk.i64_in _ (by omega)
 have e1:((E:Int) == 2047) = false:=by rw [beq_eq_false_iff_ne]; omega
 have e2:((E:Int) == 0) = false:=by rw [beq_eq_false_iff_ne]; omega
 have e3:wrap64 ((E:Int) - 1075) = (E:Int) - 1075:=wrap64_in (by omega) (by omega)
 have e4:IntKind.i64.wrap ((E:Int) - 1075) = (E:Int) - 1075:=IntWalk.i64_in _ (by omega)
 have e5:IntKind.u64.wrap ((m:Int) + 4503599627370496) = (m:Int) + 4503599627370496:=by rw [IntKind.wrap_u64]; omega
 have hRe:nearW (m + 4503599627370496) ((E:Int) - 1075) = R:=by rw [zqox hm hc.1 hc.2]; omega
 have HNt:=zh (zqbo ((m:Int) + 4503599627370496) w (by omega) (by omega))
 have HJ:=zh (fun w1 v (h:IsNum w1 v ((m:Int) + 4503599627370496)) => zqfn false v (m + 4503599627370496) ((E:Int) - 1075) w1 (by rw [Int.natCast_add]; exact h) (zqej (by omega)) (by omega) (by omega))
 rw [hRe] at HJ;have HV:=zh hv;clear hR hE hv hRe hc;go_enter Tryz.func198,Tryz.ntmps198;go_wp2_with fail;refine (HNt.out).mono ?_; rintro r w1 hr;obtain ⟨v,rfl,hn,hb1⟩:=hr;have HNu:=zh (And.intro hn hb1);obtain ⟨nb,np,nl,nc,rfl⟩:=hn.shape;clear hn hb1;go_wp2_with fail;refine (HJ.out _ _ HNu.out.1).mono ?_; rintro r w2 ⟨rfl,hb2⟩;have HB2:=zh (zqaa HNu.out.2 hb2);clear hb2;go_wp2_with (simp only [signN,Bool.false_eq_true,if_false]);go_ret;exact ⟨⟨_,rfl,HV.out⟩,HB2.out⟩
theorem zquu (w:World) (K:Int) (hk:Keyed K):Calls Tryz.prog 198 #[.int .u64 K] w (FloatP w K):=by
 rcases hk with rfl | ⟨h0,h1⟩
 ·exact zquv w
 ·by_cases hb:K < 9223372036854775808
  ·obtain ⟨R,hR⟩:∃ R:Nat,(R:Int) = 9223372036854775807 - K:=⟨(9223372036854775807 - K).toNat,by omega⟩
   have hE:R = R / 4503599627370496 * 4503599627370496 + R % 4503599627370496:=by omega
   have hm:R % 4503599627370496 < 4503599627370496:=Nat.mod_lt _ (by decide)
   by_cases c1:R / 4503599627370496 = 2047
   ·exact zqnj w K R _ _ h0 hb hR (by omega) hE hm c1
   ·by_cases c2:R / 4503599627370496 = 0
    ·exact zqnk w K R _ _ h0 hb hR (by omega) hE hm c2
    ·exact zqlf w K R _ _ h0 hb hR (by omega) hE hm (by omega)
  ·obtain ⟨R,hR⟩:∃ R:Nat,(R:Int) = K - 9223372036854775808:=⟨(K - 9223372036854775808).toNat,by omega⟩
   have hE:R = R / 4503599627370496 * 4503599627370496 + R % 4503599627370496:=by omega
   have hm:R % 4503599627370496 < 4503599627370496:=Nat.mod_lt _ (by decide)
   by_cases c1:R / 4503599627370496 = 2047
   ·exact zqnl w K R _ _ (by omega) h1 hR (by omega) hE hm c1
   ·by_cases c2:R / 4503599627370496 = 0
    ·exact zqnm w K R _ _ (by omega) h1 hR (by omega) hE hm c2
    ·exact zqlg w K R _ _ (by omega) h1 hR (by omega) hE hm (by omega)
set_option maxRecDepth 100000
open Go.RowKit
set_option linter.unusedVariables false
theorem zqq7 {b:List Int} (s:Nat × Nat):W64 (stF b s).1:=by
 unfold stF
 split
 ·simp only
  split
  ·rename_i h;have hk:Keyed (getF (b.drop s.1)).1:=by
    unfold getF at h ⊢
    by_cases h8:8 ≤ (b.drop s.1).length
    ·rw [if_pos h8] at h ⊢
     by_cases hk:Keyed (fillN (b.drop s.1) 0 8)
     ·rw [if_pos hk]; exact hk
     ·rw [if_neg hk] at h; simp at h
    ·rw [if_neg h8] at h
     split at h <;> simp at h
   exact (zqbw hk).1
  ·show W64 0; unfold W64; decide
 ·show W64 0; unfold W64; decide
set_option maxRecDepth 100000
open Go.RowKit
set_option linter.unusedVariables false
theorem got_i (u i:Int) (t:ByteArray) (n e:Int) (w:World):(Instr.field 186 (gotV u i t n e) 1).run Tryz.prog w = .ok (.int .i64 i) w:=by kernel_rfl
theorem zq3l {b:List Int} {s:Nat × Nat} (h:(stF b s).2.2 = 0):Keyed (keyK b s) ∧ keyI (stF b s).1 = keyK b s:=by
 rcases zq2j h with ⟨h1,h2⟩ | h1
 ·rw [h1]; exact ⟨h2,(zqbw h2).2.1⟩
 ·exfalso;unfold stF at h;rw [if_neg h1] at h;exact h1 h
end Go.Proofs.YtpgchfihedcdkaaGreatDoor
namespace Go.Proofs.YtpgchfihedcdkaaGreatDoor
set_option maxRecDepth 100000
open Go.RowKit
set_option linter.unusedVariables false
theorem zq25 (w:World) (N:Nat) (b:List Int) (s:Nat × Nat) (most:Int) (h:InAt w N b s.1 s.2) (h9:s.2 < 9) (hm:most ≤ 9223372036854775807) :
  Calls Tryz.prog 107 #[.pointer (some ⟨N,0,none⟩),.int .i64 most] w fun r w' => (∃ v,r = .returned v ∧ BOwn w' w.heap.size v (stB b most s).1) ∧ InAt w' N b (stB b most s).2.1 (stB b most s).2.2 ∧ w.grownBy w' (some N):=by
 obtain ⟨p,e⟩:=s;simp only at h h9;unfold stB
 by_cases he:e = 0
 ·subst he;rw [if_pos rfl];exact zqyx w N b p most h hm
 ·rw [if_neg he];refine (zqyw w _ e most (h.shut he (by omega))).mono ?_
  rintro r w' ⟨rfl,hb⟩;exact ⟨⟨_,rfl,own0 _ _⟩,h.below hb,zqaf hb _⟩
set_option maxHeartbeats 2000000 in
theorem zqdm (w:World) (N:Nat) (v:Value) (b:List Int) (s:Nat × Nat) (h:R3 w N v s.1 s.2) (hv:Ints .u8 w v b) (hb:Bt b) (hl:b.length ≤ 20000) (hs:OkSt b s) :
  Calls Tryz.prog 125 #[.pointer (some ⟨N,0,none⟩)] w fun r w' => r = .returned (.int .i64 (stI b s).1) ∧ R3 w' N v (stI b s).2.1 (stI b s).2.2 ∧ w.grownBy w' (some N):=by
 have HA:=zh (zqxv w N v b s 0 0 0 0 ⟨#[]⟩ h hv hb hl hs);have hgi:=got_i;generalize (stI b s).1 = x at *;generalize (stI b s).2 = s2 at *;clear h hv hb hs;go_enter Tryz.func125,Tryz.ntmps125;go_wp2_with fail;refine HA.out.mono ?_;rintro r w1 ⟨⟨n,e,rfl⟩,h1,h2⟩;have HR:=zh (And.intro h1 h2);clear h1 h2;go_wp2_with fail;go_ret;exact ⟨rfl,HR.out.1,HR.out.2⟩
end Go.Proofs.YtpgchfihedcdkaaGreatDoor
