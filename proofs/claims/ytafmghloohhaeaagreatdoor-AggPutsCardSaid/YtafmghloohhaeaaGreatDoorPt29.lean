/- Contracts that the law leans on: Agoj. -/
import Derived.Test.YtafmghloohhaeaaGreatDoorPt01
import Derived.Test.YtafmghloohhaeaaGreatDoorPt02
import Derived.Test.YtafmghloohhaeaaGreatDoorPt17
import Derived.Test.YtafmghloohhaeaaGreatDoorPt28
namespace Go.Proofs.YtafmghloohhaeaaGreatDoor
set_option maxRecDepth 100000
open Go.RowKit
set_option linter.unusedVariables false
abbrev boxW (a0 a1:Int) (q:Value) (a3 a4:Int):Array Value:=#[.int .i64 a0,.int .i64 a1,q,.int .i64 a3,.int .i64 a4]
theorem zqa1 {w:World} {K:Nat} {a0 a1 a3 a4:Int} {q:Value} {T:TypeId} (h:w.heap[K]? = some (.cells (boxW a0 a1 q a3 a4) T (0,0))):(w.cell? ⟨K,0,none⟩ = some (.int .i64 a0) ∧ w.cell? ⟨K,1,none⟩ = some (.int .i64 a1) ∧ w.cell? ⟨K,2,none⟩ = some q ∧ w.cell? ⟨K,3,none⟩ = some (.int .i64 a3) ∧ w.cell? ⟨K,4,none⟩ = some (.int .i64 a4)) ∧ ∀ j,w.frozen? ⟨K,j,none⟩ = false :=
 ⟨⟨by simp [World.cell?,h],by simp [World.cell?,h],by simp [World.cell?,h],by simp [World.cell?,h],by simp [World.cell?,h]⟩,fun j => by simp [World.frozen?,h]⟩
theorem zqkk {w:World} {K:Nat} {a0 a1 a3 a4 x:Int} {q:Value} {T:TypeId} (h:w.heap[K]? = some (.cells (boxW a0 a1 q a3 a4) T (0,0))):(w.setCell ⟨K,0,none⟩ (.int .i64 x)).heap[K]? = some (.cells (boxW x a1 q a3 a4) T (0,0)):=by
 simp [World.setCell,Array.getElem?_modify,h]
theorem zqkl {w:World} {K:Nat} {a0 a1 a3 a4 x:Int} {q:Value} {T:TypeId} (h:w.heap[K]? = some (.cells (boxW a0 a1 q a3 a4) T (0,0))):(w.setCell ⟨K,1,none⟩ (.int .i64 x)).heap[K]? = some (.cells (boxW a0 x q a3 a4) T (0,0)):=by
 simp [World.setCell,Array.getElem?_modify,h]
theorem zqkm {w:World} {K:Nat} {a0 a1 a3 a4:Int} {q u:Value} {T:TypeId} (h:w.heap[K]? = some (.cells (boxW a0 a1 q a3 a4) T (0,0))):(w.setCell ⟨K,2,none⟩ u).heap[K]? = some (.cells (boxW a0 a1 u a3 a4) T (0,0)):=by
 simp [World.setCell,Array.getElem?_modify,h]
theorem zqkn {w:World} {K:Nat} {a0 a1 a3 a4 x:Int} {q:Value} {T:TypeId} (h:w.heap[K]? = some (.cells (boxW a0 a1 q a3 a4) T (0,0))):(w.setCell ⟨K,3,none⟩ (.int .i64 x)).heap[K]? = some (.cells (boxW a0 a1 q x a4) T (0,0)):=by
 simp [World.setCell,Array.getElem?_modify,h]
theorem zqko {w:World} {K:Nat} {a0 a1 a3 a4 x:Int} {q:Value} {T:TypeId} (h:w.heap[K]? = some (.cells (boxW a0 a1 q a3 a4) T (0,0))):(w.setCell ⟨K,4,none⟩ (.int .i64 x)).heap[K]? = some (.cells (boxW a0 a1 q a3 x) T (0,0)):=by
 simp [World.setCell,Array.getElem?_modify,h]
theorem uown0 (w:World) (B:Nat):UOwn w B (.slice none 0 0) []:=⟨by simp,.inl ⟨rfl,rfl⟩⟩
structure Rw (w wr:World) (N:Nat) (b:List Int) (s:Nat × Nat) (a0 a1:Int) (q:Value) (l:List Int) (a3 a4:Int):Prop where
 i:InAt wr N b s.1 s.2
 r:wr.heap[w.heap.size]? = some (.cells (boxW 0 0 (.slice none 0 0) 0 0) 45 (0,0))
 k:wr.heap[w.heap.size + 1]? = some (.cells (boxW a0 a1 q a3 a4) 45 (0,0))
 o:UOwn wr w.heap.size q l
 g:w.grownBy wr (some N)
 n:N < w.heap.size
theorem zqaj {w w':World} {R N:Nat} {o:Obj} (h:w.heap[R]? = some o) (hg:w.grownBy w' (some N)) (hne:R ≠ N):w'.heap[R]? = some o :=
 (hg.block R (Array.getElem?_eq_some_iff.1 h).1 (by simpa using hne)).trans h
theorem Rw.sz {w wr:World} {N:Nat} {b:List Int} {s:Nat × Nat} {a0 a1 a3 a4:Int} {q:Value} {l:List Int} (h:Rw w wr N b s a0 a1 q l a3 a4):w.heap.size + 1 < wr.heap.size:=(Array.getElem?_eq_some_iff.1 h.k).1
theorem Rw.call {w wr w1:World} {N:Nat} {b:List Int} {s t:Nat × Nat} {a0 a1 a3 a4:Int} {q:Value} {l:List Int} (h:Rw w wr N b s a0 a1 q l a3 a4) (hi:InAt w1 N b t.1 t.2) (hg:wr.grownBy w1 (some N)):Rw w w1 N b t a0 a1 q l a3 a4 :=
 ⟨hi,zqaj h.r hg (by have:=h.n; omega),zqaj h.k hg (by have:=h.n; omega),zqd4 h.o hg h.n,zqaf h.g hg,h.n⟩
theorem Rw.below {w wr w1:World} {N:Nat} {b:List Int} {s:Nat × Nat} {a0 a1 a3 a4:Int} {q:Value} {l:List Int} (h:Rw w wr N b s a0 a1 q l a3 a4) (hb:Below wr.heap.size wr w1):Rw w w1 N b s a0 a1 q l a3 a4 :=
 h.call (h.i.below hb) (zqah hb _)
theorem Rw.set {w wr:World} {N j:Nat} {b:List Int} {s:Nat × Nat} {a0 a1 a3 a4 x0 x1 x3 x4:Int} {q u:Value} {l:List Int} (h:Rw w wr N b s a0 a1 q l a3 a4) (hk:(wr.setCell ⟨w.heap.size + 1,j,none⟩ u).heap[w.heap.size + 1]? = some (.cells (boxW x0 x1 q x3 x4) 45 (0,0))):Rw w (wr.setCell ⟨w.heap.size + 1,j,none⟩ u) N b s x0 x1 q l x3 x4 :=
 ⟨h.i.far h.k (by decide) (by have:=h.n; omega) (zqae _ _ _ _),zqaj h.r (zqae _ _ _ _) (by omega),hk,zqak h.o h.k (by decide),zqbd h.g (zqae wr (w.heap.size + 1) j u) (fun g e => by have:=Option.some.inj e; omega),h.n⟩
theorem Rw.row {w wr w7:World} {N:Nat} {b:List Int} {s:Nat × Nat} {a0 a1 a3 a4:Int} {q q':Value} {l l':List Int} (h:Rw w wr N b s a0 a1 q l a3 a4) (ho:UOwn w7 w.heap.size q' l') (hg:wr.grownBy w7 q.ownBlock) :
  w7.heap[w.heap.size + 1]? = some (.cells (boxW a0 a1 q a3 a4) 45 (0,0)) ∧ Rw w (w7.setCell ⟨w.heap.size + 1,2,none⟩ q') N b s a0 a1 q' l' a3 a4:=by
 have h1:=zqal h.k h.o (by decide) hg
 have h2:=zqal h.r h.o (by decide) hg
 have h3:=h.i.own h.o (by decide) h.n hg
 refine ⟨h1,h3.far h1 (by decide) (by have:=h.n; omega) (zqae _ _ _ _),zqaj h2 (zqae _ _ _ _) (by omega),zqkm h1,zqak ho h1 (by decide),zqbd (zqbd h.g hg (fun g e => ?_)) (zqae w7 (w.heap.size + 1) 2 q') (fun g e => by have:=Option.some.inj e; omega),h.n⟩
 exact (h.o.lt g e).1
theorem zqyo {w:World} {N:Nat} {b:List Int} {s:Nat × Nat} (h:InAt w N b s.1 s.2):Rw w ((w.alloc (.cells #[.int .i64 0,.int .i64 0,.slice none 0 0,.int .i64 0,.int .i64 0] 45)).alloc (.cells #[.int .i64 0,.int .i64 0,.slice none 0 0,.int .i64 0,.int .i64 0] 45)) N b s 0 0 (.slice none 0 0) [] 0 0:=by
 have h1:=zqab w (.cells #[.int .i64 0,.int .i64 0,.slice none 0 0,.int .i64 0,.int .i64 0] 45);have h2:=zqab (w.alloc (.cells #[.int .i64 0,.int .i64 0,.slice none 0 0,.int .i64 0,.int .i64 0] 45)) (.cells #[.int .i64 0,.int .i64 0,.slice none 0 0,.int .i64 0,.int .i64 0] 45);have h3:((w.alloc (.cells #[.int .i64 0,.int .i64 0,.slice none 0 0,.int .i64 0,.int .i64 0] 45)).alloc (.cells #[.int .i64 0,.int .i64 0,.slice none 0 0,.int .i64 0,.int .i64 0] 45)).heap[w.heap.size + 1]? = some (.cells (boxW 0 0 (.slice none 0 0) 0 0) 45 (0,0)):=by
  have:=heap_alloc_new (w.alloc (.cells #[.int .i64 0,.int .i64 0,.slice none 0 0,.int .i64 0,.int .i64 0] 45)) (.cells #[.int .i64 0,.int .i64 0,.slice none 0 0,.int .i64 0,.int .i64 0] 45)
  rwa [World.size_alloc] at this
 exact ⟨h.below (zqaa h1 h2),(h2.block _ (by simp)).trans (heap_alloc_new w _),h3,uown0 _ _,zqah (zqaa h1 h2) _,h.lt⟩
theorem zq1y {w wr:World} {N:Nat} {b:List Int} {s:Nat × Nat} {a0 a1 a3 a4:Int} {q:Value} {l:List Int} (h:Rw w wr N b s a0 a1 q l a3 a4) :
  let W:=((((wr.setCell ⟨w.heap.size,0,none⟩ (.int .i64 a0)).setCell ⟨w.heap.size,1,none⟩ (.int .i64 a1)).setCell ⟨w.heap.size,2,none⟩ q).setCell ⟨w.heap.size,3,none⟩ (.int .i64 a3)).setCell ⟨w.heap.size,4,none⟩ (.int .i64 a4)
  (InAt W N b s.1 s.2 ∧ UOwn W w.heap.size q l ∧ w.grownBy W (some N)) ∧ W.heap[w.heap.size]? = some (.cells (boxW a0 a1 q a3 a4) 45 (0,0)):=by
 have st:∀ (j:Nat) (u:Value) (x:World) (cs:Array Value),x.heap[w.heap.size]? = some (.cells cs 45 (0,0)) → (InAt x N b s.1 s.2 ∧ UOwn x w.heap.size q l ∧ w.grownBy x (some N)) → InAt (x.setCell ⟨w.heap.size,j,none⟩ u) N b s.1 s.2 ∧ UOwn (x.setCell ⟨w.heap.size,j,none⟩ u) w.heap.size q l ∧ w.grownBy (x.setCell ⟨w.heap.size,j,none⟩ u) (some N) :=
  fun j u x cs hx ⟨k1,k2,k3⟩ => ⟨k1.far hx (by decide) (by have:=h.n; omega) (zqae _ _ _ _),zqak k2 hx (by decide),zqbd k3 (zqae x w.heap.size j u) (fun g e => by have:=Option.some.inj e; omega)⟩
 have r1:=zqkk (x:=a0) h.r;have r2:=zqkl (x:=a1) r1;have r3:=zqkm (u:=q) r2;have r4:=zqkn (x:=a3) r3;have r5:=zqko (x:=a4) r4;exact ⟨st 4 _ _ _ r4 (st 3 _ _ _ r3 (st 2 _ _ _ r2 (st 1 _ _ _ r1 (st 0 _ _ _ h.r ⟨h.i,h.o,h.g⟩)))),r5⟩
theorem lk_ex (b:List Int) (s:Nat × Nat) (hb:Bt b) (hs:OkSt b s):∃ (LK:Nat → List Int × Nat × Nat) (EL:Nat → Int),LK 0 = ([],s) ∧ (∀ k,(LK (k + 1)).1 = (LK k).1 ++ [EL k] ∧ 0 ≤ EL k ∧ EL k ≤ 4294967295 ∧ (LK k).1.length = k) ∧
  (∀ N k w1,InAt w1 N b (LK k).2.1 (LK k).2.2 → Calls Tryz.prog 61 #[.pointer (some ⟨N,0,none⟩),.int .u64 4294967295] w1 fun r w' => r = .returned (.int .u64 (EL k)) ∧ InAt w' N b (LK (k + 1)).2.1 (LK (k + 1)).2.2 ∧ w1.grownBy w' (some N)) ∧
  ∀ n,rdSq b n s = LK n :=
 ⟨fun k => listK (fun _ s => stU b 4294967295 s) s k,fun k => (stU b 4294967295 (listK (fun _ s => stU b 4294967295 s) s k).2).1,rfl,
  fun k => ⟨rfl,(zqd5 hb (by decide) _).1,(zqd5 hb (by decide) _).2,(zqhc hb k hs).2⟩,
  fun N k w1 h => zqmk w1 N b _ 4294967295 h (zqhc hb k hs).1.2,fun n => rfl⟩
def RwP (w:World) (N:Nat) (x:Wh) (s:Nat × Nat) (b:List Int) (r:Ending) (w':World):Prop :=
 (∃ q,r = .returned (.agg #[.int .i64 x.sum,.int .i64 x.abs,q,.int .i64 x.mn,.int .i64 x.mx]) ∧ UOwn w' w.heap.size q x.sq) ∧ InAt w' N b s.1 s.2 ∧ w.grownBy w' (some N)
theorem Tryz.infoU32w:(Tryz.prog.info? 27).map (fun i => (i.zero,i.size,i.bytes)) = some (some (.int .u32 0),1,4):=by kernel_rfl
set_option maxHeartbeats 16000000 in
theorem zqut (w:World) (N:Nat) (b:List Int) (s:Nat × Nat) (h:InAt w N b s.1 s.2) (hs:OkSt b s) (hb:Bt b) :
  Calls Tryz.prog 63 #[.pointer (some ⟨N,0,none⟩)] w (RwP w N (rdWh b s).1 (rdWh b s).2 b):=by
 obtain ⟨i0,hi,hz0,hz1,hz2⟩:=info_parts Tryz.infoU32w;have o1:OkSt b (rdW1 b s).2:=zqc6 hs;have o2:OkSt b (rdW2 b s).2:=zqc6 o1;have o3:OkSt b (rdW3 b s).2:=zqg2 hb _ o2;have o4:OkSt b (rdW4 b s).2:=(zqhc hb _ o3).1;have o5:OkSt b (rdW5 b s).2:=zqc6 o4;have H1:=zh (fun w1 (h:InAt w1 N b s.1 s.2) => show Calls Tryz.prog 62 #[.pointer (some ⟨N,0,none⟩)] w1 (fun r w' => r = .returned (.int .i64 (rdW1 b s).1) ∧ InAt w' N b (rdW1 b s).2.1 (rdW1 b s).2.2 ∧ w1.grownBy w' (some N)) from zqgj w1 N b s h hs.2)
 have H2:=zh (fun w1 (h:InAt w1 N b (rdW1 b s).2.1 (rdW1 b s).2.2) => show Calls Tryz.prog 62 #[.pointer (some ⟨N,0,none⟩)] w1 (fun r w' => r = .returned (.int .i64 (rdW2 b s).1) ∧ InAt w' N b (rdW2 b s).2.1 (rdW2 b s).2.2 ∧ w1.grownBy w' (some N)) from zqgj w1 N b (rdW1 b s).2 h o1.2)
 have H3:=zh (fun w1 (h:InAt w1 N b (rdW2 b s).2.1 (rdW2 b s).2.2) => show Calls Tryz.prog 61 #[.pointer (some ⟨N,0,none⟩),.int .u64 7] w1 (fun r w' => r = .returned (.int .u64 (rdW3 b s).1) ∧ InAt w' N b (rdW3 b s).2.1 (rdW3 b s).2.2 ∧ w1.grownBy w' (some N)) from zqmk w1 N b (rdW2 b s).2 7 h o2.2)
 have H5:=zh (fun w1 (h:InAt w1 N b (rdW4 b s).2.1 (rdW4 b s).2.2) => show Calls Tryz.prog 62 #[.pointer (some ⟨N,0,none⟩)] w1 (fun r w' => r = .returned (.int .i64 (rdW5 b s).1) ∧ InAt w' N b (rdW5 b s).2.1 (rdW5 b s).2.2 ∧ w1.grownBy w' (some N)) from zqgj w1 N b (rdW4 b s).2 h o4.2)
 have H6:=zh (fun w1 (h:InAt w1 N b (rdW5 b s).2.1 (rdW5 b s).2.2) => show Calls Tryz.prog 62 #[.pointer (some ⟨N,0,none⟩)] w1 (fun r w' => r = .returned (.int .i64 (rdW6 b s).1) ∧ InAt w' N b (rdW6 b s).2.1 (rdW6 b s).2.2 ∧ w1.grownBy w' (some N)) from zqgj w1 N b (rdW5 b s).2 h o5.2)
 obtain ⟨LK,EL,hL0,hL1,hL2,hL3⟩:=lk_ex b (rdW3 b s).2 hb o3;have hv3:0 ≤ (rdW3 b s).1 ∧ (rdW3 b s).1 ≤ 7:=zqd5 hb (by decide) _
 have h4:rdW4 b s = LK (rdW3 b s).1.toNat:=hL3 _;have HR0:=zh (zqyo h);show Calls Tryz.prog 63 #[.pointer (some ⟨N,0,none⟩)] w (RwP w N ⟨(rdW1 b s).1,(rdW2 b s).1,(rdW4 b s).1,(rdW5 b s).1,(rdW6 b s).1⟩ (rdW6 b s).2 b)
 rw [h4] at H5 ⊢;obtain ⟨M,hM⟩:∃ M:Nat,(rdW3 b s).1 = M:=⟨(rdW3 b s).1.toNat,by omega⟩
 have hM7:M ≤ 7:=by omega
 rw [hM] at H3 H5 ⊢;rw [Int.toNat_natCast] at H5 ⊢;have HL0:=zh hL0;have HL1:=zh hL1;have HL2:=zh (hL2 N);generalize (rdW1 b s).1 = v1 at *;generalize (rdW2 b s).1 = v2 at *;generalize (rdW5 b s).1 = v5 at *;generalize (rdW6 b s).1 = v6 at *;generalize (rdW1 b s).2 = s1 at *;generalize (rdW2 b s).2 = s2 at *;generalize (rdW3 b s).2 = s3 at *;generalize (rdW5 b s).2 = s5 at *;generalize (rdW6 b s).2 = s6 at *;clear o1 o2 o3 o4 o5 hL0 hL1 hL2 hL3 h4 hM hv3 h hs hb;go_enter Tryz.func63,Tryz.ntmps63;go_upto_region 2 with fail;generalize (w.alloc (.cells #[.int .i64 0,.int .i64 0,.slice none 0 0,.int .i64 0,.int .i64 0] 45)).alloc (.cells #[.int .i64 0,.int .i64 0,.slice none 0 0,.int .i64 0,.int .i64 0] 45) = W0 at *;go_wp2_with fail;refine (H1.out _ HR0.out.i).mono ?_; rintro r w1 ⟨rfl,hi1,hg1⟩;have HR1:=zh (HR0.out.call hi1 hg1);clear hi1 hg1;obtain ⟨⟨e0,e1,e2,e3,e4⟩,ef⟩:=zqa1 HR1.out.k;go_upto_region 3 with fail;have HR2:=zh (HR1.out.set (zqkk (x:=v1) HR1.out.k));generalize w1.setCell ⟨w.heap.size + 1,0,none⟩ (.int .i64 v1) = w2 at *;clear e0 e1 e2 e3 e4 ef;go_wp2_with fail;refine (H2.out _ HR2.out.i).mono ?_; rintro r w3 ⟨rfl,hi1,hg1⟩;have HR3:=zh (HR2.out.call hi1 hg1);clear hi1 hg1;obtain ⟨⟨e0,e1,e2,e3,e4⟩,ef⟩:=zqa1 HR3.out.k;go_upto_region 4 with fail;have HR4:=zh (HR3.out.set (zqkl (x:=v2) HR3.out.k));generalize w3.setCell ⟨w.heap.size + 1,1,none⟩ (.int .i64 v2) = w4 at *;clear e0 e1 e2 e3 e4 ef;go_wp2_with fail;refine (H3.out _ HR4.out.i).mono ?_; rintro r w5 ⟨rfl,hi1,hg1⟩;have HR5:=zh (show Rw w w5 N b (LK 0).2 v1 v2 (.slice none 0 0) (LK 0).1 0 0 by rw [HL0.out]; exact HR4.out.call hi1 hg1)
 clear hi1 hg1;go_wp2_with fail;go_loopw [12] (fun i wr => ∃ (k:Nat) (q:Value),k ≤ M ∧ i = .int .u64 k ∧ Hid (Rw w wr N b (LK k).2 v1 v2 q (LK k).1 0 0)) (fun i _ => M - (intOf i).toNat)
 case atStart => exact ⟨0,_,Nat.zero_le _,rfl,HR5⟩
 case round =>
  obtain ⟨k,q,hk,rfl,HS⟩:=hrel
  by_cases hlk:k < M
  ·have hlk':(k:Int) < (M:Int):=by omega
   have hle:Hid (k + 1 ≤ M):=zh (by omega)
   have i1:IntKind.u64.wrap ((k:Int) + 1) = (k:Int) + 1:=by rw [IntKind.wrap_u64]; omega
   obtain ⟨l1,l2,l3,l4⟩:=HL1.out k;have i2:IntKind.u32.wrap (EL k) = EL k:=by rw [IntKind.wrap_u32]; omega
   obtain ⟨qp,qc,hq⟩:=zqag HS.out.o;subst hq;have HLn:=zh (And.intro l4 hM7);clear l4;obtain ⟨⟨e0,e1,e2,e3,e4⟩,ef⟩:=zqa1 HS.out.k;go_upto_region 6 with fail;have hk:wr.drew.cell? ⟨w.heap.size + 1,2,none⟩ = some (.slice qp (LK k).1.length qc):=e2;have HSd:=zh (HS.out.below (Below.refl _ _).drew);clear e0 e1 e2 e3 e4 ef;refine zqfa (S:=fun w' => w'.cell? ⟨w.heap.size + 1,2,none⟩ = some (.slice qp (LK k).1.length qc)) 8 (by kernel_rfl) hk (fun _ => ?_)
   refine tkZ 0 14 (.pointer (some ⟨w.heap.size + 1,2,none⟩)) rfl hk ?_;try simp only [pS]
   refine tkZ 1 15 (.slice qp (LK k).1.length qc) rfl hk ?_;try simp only [pS]
   refine tkZ 2 16 (.pointer (some ⟨N,0,none⟩)) rfl hk ?_;try simp only [pS]
   refine zqci (i:=3) (by kernel_rfl) rfl (fun K' hK => ?_)
   rw [if_pos (by kernel_rfl)]
   go_simp;go_at_call 61;refine (HL2.out k _ HSd.out.i).mono ?_;rintro r w6 ⟨rfl,hi1,hg1⟩;have HS6:=zh (HSd.out.call hi1 hg1);replace hk:=(zqa1 HS6.out.k).1.2.2.1;clear hi1 hg1;refine hK.out _ _ hk ?_;try simp only [pS]
   clear hK;refine tkZ 4 18 (.int .u32 (EL k)) rfl hk ?_;try simp only [pS]
   refine zqci (i:=5) (by kernel_rfl) rfl (fun K' hK => ?_)
   rw [if_pos (by kernel_rfl)]
   go_simp;have HS7:=zh (HS6.out.below (zqab w6 (.cells #[.int .u32 (EL k)] 27)));replace hk:=(zqa1 HS7.out.k).1.2.2.1;refine hK.out _ _ hk ?_;try simp only [pS]
   clear hK;refine zqci (i:=6) (by kernel_rfl) rfl (fun K' hK => ?_)
   refine zqcj _ (by rfl) _ _ _ (by rfl) w.heap.size 27 i0 (.int .u32 0) 1 4 Tryz.underlying24 hi hz0 hz1 hz2 (by simp [Value.cells]) (by decide) _ (LK k).1.length ((LK k).1.map (Value.int .u32)) (by rfl) HS7.out.o ⟨w6.heap.size,0,none⟩ 1 1 [.int .u32 (EL k)] (by rfl) (by rfl) (World.news_of_block (heap_alloc_new w6 _)) (by intro u hu; simp at hu; rcases hu with rfl; rfl) (by have:=HLn.out; unfold maxLen; omega) (by have:=HLn.out; omega) (by have:=HS7.out.sz; omega) ?_
   intro v' w7 hown hgrow;have hown2:UOwn w7 w.heap.size v' (LK (k + 1)).1:=by
    rw [l1];unfold UOwn;rw [List.length_append,List.map_append];exact hown
   have HS8:=zh (HS7.out.row hown2 hgrow);have hc7:=(zqa1 HS8.out.1).1;have hf7:=(zqa1 HS8.out.1).2;replace hk:=hc7.2.2.1;obtain ⟨pv',cv',rfl⟩:=zqag hown;clear hown hgrow hown2;refine hK.out _ _ hk ?_;try simp only [pS]
   clear hK;refine tkZ 7 21 (.pointer (some ⟨w.heap.size + 1,2,none⟩)) rfl hk ?_;try simp only [pS]
   obtain ⟨-,-,e2,-,-⟩:=hc7;refine zqio (by kernel_rfl) rfl (fun K' hK => ?_)
   rw [if_pos (by kernel_rfl)]
   go_simp;refine hK.out _ _ ?_;try simp only [Act.put]
   clear hK;refine zqin (by kernel_rfl) ?_ _
   have HS9:=zh HS8.out.2;generalize w7.setCell ⟨w.heap.size + 1,2,none⟩ (.slice pv' ((LK k).1.length + 1) cv') = w8 at *;clear e2 hf7 hk HS8 HS7 HS6 HSd;go_wp2_with fail;go_roundw
   case rel => exact ⟨k + 1,_,hle.out,by go_num,HS9⟩
   case measure => simp [intOf]; omega
  ·obtain rfl:k = M:=by omega
   obtain ⟨qp,qc,hq⟩:=zqag HS.out.o;subst hq;go_wp2_with fail;refine (H5.out _ HS.out.i).mono ?_; rintro r w3 ⟨rfl,hi1,hg1⟩;have HR3:=zh (HS.out.call hi1 hg1);clear hi1 hg1;obtain ⟨⟨e0,e1,e2,e3,e4⟩,ef⟩:=zqa1 HR3.out.k;go_upto_region 9 with fail;have HR4:=zh (HR3.out.set (zqkn (x:=v5) HR3.out.k));generalize w3.setCell ⟨w.heap.size + 1,3,none⟩ (.int .i64 v5) = w4 at *;clear e0 e1 e2 e3 e4 ef;go_wp2_with fail;refine (H6.out _ HR4.out.i).mono ?_; rintro r w5 ⟨rfl,hi1,hg1⟩;have HR5:=zh (HR4.out.call hi1 hg1);clear hi1 hg1;obtain ⟨⟨e0,e1,e2,e3,e4⟩,ef⟩:=zqa1 HR5.out.k;go_upto_region 10 with fail;have HR6:=zh (HR5.out.set (zqko (x:=v6) HR5.out.k));generalize w5.setCell ⟨w.heap.size + 1,4,none⟩ (.int .i64 v6) = w6 at *;clear e0 e1 e2 e3 e4 ef;obtain ⟨⟨e0,e1,e2,e3,e4⟩,ef⟩:=zqa1 HR6.out.k;obtain ⟨⟨r0,r1,r2,r3,r4⟩,rf⟩:=zqa1 HR6.out.r;have HF:=zh (zq1y HR6.out);go_wp2_with fail;generalize ((((w6.setCell ⟨w.heap.size,0,none⟩ (.int .i64 v1)).setCell ⟨w.heap.size,1,none⟩ (.int .i64 v2)).setCell ⟨w.heap.size,2,none⟩ (.slice qp (LK k).1.length qc)).setCell ⟨w.heap.size,3,none⟩ (.int .i64 v5)).setCell ⟨w.heap.size,4,none⟩ (.int .i64 v6) = W9 at *;obtain ⟨⟨h1,h2,h3⟩,h5⟩:=HF.out;obtain ⟨⟨r0,r1,r2,r3,r4⟩,-⟩:=zqa1 h5;exact bodyPost_ret (v:=.agg #[.int .i64 v1,.int .i64 v2,.slice qp (LK k).1.length qc,.int .i64 v5,.int .i64 v6]) (by simp [results,Tryz.results63,go_sem,r0,r1,r2,r3,r4]) rfl ⟨⟨_,rfl,h2⟩,h1,h3⟩
end Go.Proofs.YtafmghloohhaeaaGreatDoor
