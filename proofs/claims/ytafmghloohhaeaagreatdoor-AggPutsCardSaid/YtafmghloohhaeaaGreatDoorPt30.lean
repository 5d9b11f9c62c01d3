/- Contracts that the law leans on: Agok Aggu. -/
import Derived.Test.YtafmghloohhaeaaGreatDoorPt02
import Derived.Test.YtafmghloohhaeaaGreatDoorPt20
import Derived.Test.YtafmghloohhaeaaGreatDoorPt24
import Derived.Test.YtafmghloohhaeaaGreatDoorPt29
namespace Go.Proofs.YtafmghloohhaeaaGreatDoor
set_option maxRecDepth 100000
open Go.RowKit
set_option linter.unusedVariables false
theorem WsOwn.far {w w':World} {B N:Nat} {v:Value} {ps:List (Value × Wh)} (h:WsOwn w B v ps) (hg:w.grownBy w' (some N)) (hN:N < B):WsOwn w' B v ps:=⟨zqd4 h.1 hg hN,fun p hp => zqd4 (h.2 p hp) hg hN⟩
theorem RsOwn.far {w w':World} {B N:Nat} {v:Value} {ps:List (Value × Re)} (h:RsOwn w B v ps) (hg:w.grownBy w' (some N)) (hN:N < B):RsOwn w' B v ps:=⟨zqd4 h.1 hg hN,fun p hp => zqd4 (h.2 p hp) hg hN⟩
theorem RsOwn.apart2 {w w':World} {B B' E sz n:Nat} {v u:Value} {ps:List (Value × Re)} {xs:List Value} (h:RsOwn w B v ps) (ho:w.ownsRow B' E sz u n xs) (h1:48 ≠ E) (h2:5 ≠ E) (hg:w.grownBy w' u.ownBlock):RsOwn w' B v ps :=
 ⟨zqbk h.1 ho h1 hg,fun p hp => zqbk (h.2 p hp) ho h2 hg⟩
structure Rc (w wr:World) (N:Nat) (b:List Int) (s:Nat × Nat) (D I M V:Value) (key cnt:Int) (iv:Value) (ps:List (Value × Wh)) (nv:Value) (qs:List (Value × Re)):Prop where
 i:InAt wr N b s.1 s.2
 x:Box wr w.heap.size D I M V
 r:wr.heap[w.heap.size + 1]? = some (.cells (boxV 0 0 (.slice none 0 0) (.slice none 0 0)) 32 (0,0))
 k:wr.heap[w.heap.size + 2]? = some (.cells (boxV key cnt iv nv) 32 (0,0))
 is:WsOwn wr w.heap.size iv ps
 ns:RsOwn wr w.heap.size nv qs
 g:w.grownBy wr (some N)
 n:N < w.heap.size
theorem Rc.sz {w wr:World} {N:Nat} {b:List Int} {s:Nat × Nat} {D I M V:Value} {key cnt:Int} {iv nv:Value} {ps:List (Value × Wh)} {qs:List (Value × Re)} (h:Rc w wr N b s D I M V key cnt iv ps nv qs):w.heap.size + 2 < wr.heap.size:=(Array.getElem?_eq_some_iff.1 h.k).1
theorem Rc.call {w wr:World} {N:Nat} {b:List Int} {s:Nat × Nat} {D I M V:Value} {key cnt:Int} {iv nv:Value} {ps:List (Value × Wh)} {qs:List (Value × Re)} (h:Rc w wr N b s D I M V key cnt iv ps nv qs) {w1:World} {t:Nat × Nat} (hi:InAt w1 N b t.1 t.2) (hg:wr.grownBy w1 (some N)):Rc w w1 N b t D I M V key cnt iv ps nv qs :=
 have hn:=h.n
 ⟨hi,zqaj h.x hg (by omega),zqaj h.r hg (by omega),zqaj h.k hg (by omega),h.is.far hg hn,h.ns.far hg hn,zqaf h.g hg,hn⟩
theorem Rc.below {w wr:World} {N:Nat} {b:List Int} {s:Nat × Nat} {D I M V:Value} {key cnt:Int} {iv nv:Value} {ps:List (Value × Wh)} {qs:List (Value × Re)} (h:Rc w wr N b s D I M V key cnt iv ps nv qs) {w1:World} (hb:Below wr.heap.size wr w1):Rc w w1 N b s D I M V key cnt iv ps nv qs:=h.call (h.i.below hb) (zqah hb _)
theorem zqf7 {w:World} {C:Nat} {k n x:Int} {I N:Value} {T:TypeId} (h:w.heap[C]? = some (.cells (boxV k n I N) T (0,0))):(w.setCell ⟨C,0,none⟩ (.int .u64 x)).heap[C]? = some (.cells (boxV x n I N) T (0,0)):=by
 simp [World.setCell,Array.getElem?_modify,h]
theorem zqf8 {w:World} {C:Nat} {k n x:Int} {I N:Value} {T:TypeId} (h:w.heap[C]? = some (.cells (boxV k n I N) T (0,0))):(w.setCell ⟨C,1,none⟩ (.int .i64 x)).heap[C]? = some (.cells (boxV k x I N) T (0,0)):=by
 simp [World.setCell,Array.getElem?_modify,h]
theorem Rc.set {w wr:World} {N:Nat} {b:List Int} {s:Nat × Nat} {D I M V:Value} {key cnt:Int} {iv nv:Value} {ps:List (Value × Wh)} {qs:List (Value × Re)} (h:Rc w wr N b s D I M V key cnt iv ps nv qs) {j:Nat} {u:Value} {key' cnt':Int} (hk:(wr.setCell ⟨w.heap.size + 2,j,none⟩ u).heap[w.heap.size + 2]? = some (.cells (boxV key' cnt' iv nv) 32 (0,0))):Rc w (wr.setCell ⟨w.heap.size + 2,j,none⟩ u) N b s D I M V key' cnt' iv ps nv qs :=
 have hn:=h.n;have hg:=zqae wr (w.heap.size + 2) j u
 ⟨h.i.far h.k (by decide) (by omega) hg,zqaj h.x hg (by omega),zqaj h.r hg (by omega),hk,h.is.setbox h.k (by decide) (by decide),h.ns.setbox h.k (by decide) (by decide),zqbd h.g hg (fun g e => by have:=Option.some.inj e; omega),hn⟩
theorem Rc.rowI {w wr:World} {N:Nat} {b:List Int} {s:Nat × Nat} {D I M V:Value} {key cnt:Int} {iv nv:Value} {ps:List (Value × Wh)} {qs:List (Value × Re)} (h:Rc w wr N b s D I M V key cnt iv ps nv qs) {w7:World} {iv':Value} {ps':List (Value × Wh)} (ho:WsOwn w7 w.heap.size iv' ps') (hg:wr.grownBy w7 iv.ownBlock) :
  w7.heap[w.heap.size + 2]? = some (.cells (boxV key cnt iv nv) 32 (0,0)) ∧ Rc w (w7.setCell ⟨w.heap.size + 2,2,none⟩ iv') N b s D I M V key cnt iv' ps' nv qs:=by
 have hn:=h.n;have h1:=zqal h.k h.is.1 (by decide) hg
 have h2:=zqal h.r h.is.1 (by decide) hg
 have h4:=zqal h.x h.is.1 (by decide) hg
 have h3:=h.i.own h.is.1 (by decide) h.n hg
 have hs:=zqae w7 (w.heap.size + 2) 2 iv';refine ⟨h1,h3.far h1 (by decide) (by omega) hs,zqaj h4 hs (by omega),zqaj h2 hs (by omega),zqda h1,ho.setbox h1 (by decide) (by decide),(h.ns.apart2 h.is.1 (by decide) (by decide) hg).setbox h1 (by decide) (by decide),zqbd (zqbd h.g hg (fun g e => (h.is.1.lt g e).1)) hs (fun g e => by have:=Option.some.inj e; omega),hn⟩
theorem Rc.rowN {w wr:World} {N:Nat} {b:List Int} {s:Nat × Nat} {D I M V:Value} {key cnt:Int} {iv nv:Value} {ps:List (Value × Wh)} {qs:List (Value × Re)} (h:Rc w wr N b s D I M V key cnt iv ps nv qs) {w7:World} {nv':Value} {qs':List (Value × Re)} (ho:RsOwn w7 w.heap.size nv' qs') (hg:wr.grownBy w7 nv.ownBlock) :
  w7.heap[w.heap.size + 2]? = some (.cells (boxV key cnt iv nv) 32 (0,0)) ∧ Rc w (w7.setCell ⟨w.heap.size + 2,3,none⟩ nv') N b s D I M V key cnt iv ps nv' qs':=by
 have hn:=h.n;have h1:=zqal h.k h.ns.1 (by decide) hg
 have h2:=zqal h.r h.ns.1 (by decide) hg
 have h4:=zqal h.x h.ns.1 (by decide) hg
 have h3:=h.i.own h.ns.1 (by decide) h.n hg
 have hs:=zqae w7 (w.heap.size + 2) 3 nv';refine ⟨h1,h3.far h1 (by decide) (by omega) hs,zqaj h4 hs (by omega),zqaj h2 hs (by omega),zqhy h1,(h.is.apart h.ns.1 (by decide) (by decide) hg).setbox h1 (by decide) (by decide),ho.setbox h1 (by decide) (by decide),zqbd (zqbd h.g hg (fun g e => (h.ns.1.lt g e).1)) hs (fun g e => by have:=Option.some.inj e; omega),hn⟩
theorem zqyb {w:World} {N:Nat} {b:List Int} {s:Nat × Nat} {D I M V:Value} (h:InAt w N b s.1 s.2):Rc w (((w.alloc (SchO D I M V)).alloc (.cells #[.int .u64 0,.int .i64 0,.slice none 0 0,.slice none 0 0] 32)).alloc (.cells #[.int .u64 0,.int .i64 0,.slice none 0 0,.slice none 0 0] 32)) N b s D I M V 0 0 (.slice none 0 0) [] (.slice none 0 0) []:=by
 have h1:=zqab w (SchO D I M V);have h2:=zqab (w.alloc (SchO D I M V)) (.cells #[.int .u64 0,.int .i64 0,.slice none 0 0,.slice none 0 0] 32);have h3:=zqab ((w.alloc (SchO D I M V)).alloc (.cells #[.int .u64 0,.int .i64 0,.slice none 0 0,.slice none 0 0] 32)) (.cells #[.int .u64 0,.int .i64 0,.slice none 0 0,.slice none 0 0] 32);have k0:=zqa7 w D I M V;have k1:((w.alloc (SchO D I M V)).alloc (.cells #[.int .u64 0,.int .i64 0,.slice none 0 0,.slice none 0 0] 32)).heap[w.heap.size + 1]? = some (.cells (boxV 0 0 (.slice none 0 0) (.slice none 0 0)) 32 (0,0)):=by
  have:=heap_alloc_new (w.alloc (SchO D I M V)) (.cells #[.int .u64 0,.int .i64 0,.slice none 0 0,.slice none 0 0] 32)
  rwa [World.size_alloc] at this
 have k2:(((w.alloc (SchO D I M V)).alloc (.cells #[.int .u64 0,.int .i64 0,.slice none 0 0,.slice none 0 0] 32)).alloc (.cells #[.int .u64 0,.int .i64 0,.slice none 0 0,.slice none 0 0] 32)).heap[w.heap.size + 2]? = some (.cells (boxV 0 0 (.slice none 0 0) (.slice none 0 0)) 32 (0,0)):=by
  have:=heap_alloc_new ((w.alloc (SchO D I M V)).alloc (.cells #[.int .u64 0,.int .i64 0,.slice none 0 0,.slice none 0 0] 32)) (.cells #[.int .u64 0,.int .i64 0,.slice none 0 0,.slice none 0 0] 32)
  rwa [World.size_alloc,World.size_alloc] at this
 exact ⟨h.below (zqaa h1 (zqaa h2 h3)),(k0.below h2).below h3,(h3.block _ (by simp)).trans k1,k2,WsOwn.nil _ _,RsOwn.nil _ _,zqah (zqaa h1 (zqaa h2 h3)) _,h.lt⟩
theorem zq1t {w wr:World} {N:Nat} {b:List Int} {s:Nat × Nat} {D I M V:Value} {key cnt:Int} {iv nv:Value} {ps:List (Value × Wh)} {qs:List (Value × Re)} (h:Rc w wr N b s D I M V key cnt iv ps nv qs) :
  let W:=(((wr.setCell ⟨w.heap.size + 1,0,none⟩ (.int .u64 key)).setCell ⟨w.heap.size + 1,1,none⟩ (.int .i64 cnt)).setCell ⟨w.heap.size + 1,2,none⟩ iv).setCell ⟨w.heap.size + 1,3,none⟩ nv
  (InAt W N b s.1 s.2 ∧ WsOwn W w.heap.size iv ps ∧ RsOwn W w.heap.size nv qs ∧ w.grownBy W (some N)) ∧ W.heap[w.heap.size + 1]? = some (.cells (boxV key cnt iv nv) 32 (0,0)):=by
 have st:∀ (j:Nat) (u:Value) (x:World) (cs:Array Value),x.heap[w.heap.size + 1]? = some (.cells cs 32 (0,0)) → (InAt x N b s.1 s.2 ∧ WsOwn x w.heap.size iv ps ∧ RsOwn x w.heap.size nv qs ∧ w.grownBy x (some N)) → InAt (x.setCell ⟨w.heap.size + 1,j,none⟩ u) N b s.1 s.2 ∧ WsOwn (x.setCell ⟨w.heap.size + 1,j,none⟩ u) w.heap.size iv ps ∧ RsOwn (x.setCell ⟨w.heap.size + 1,j,none⟩ u) w.heap.size nv qs ∧ w.grownBy (x.setCell ⟨w.heap.size + 1,j,none⟩ u) (some N) :=
  fun j u x cs hx ⟨k1,k2,k3,k4⟩ => ⟨k1.far hx (by decide) (by have:=h.n; omega) (zqae _ _ _ _),k2.setbox hx (by decide) (by decide),k3.setbox hx (by decide) (by decide),zqbd k4 (zqae x (w.heap.size + 1) j u) (fun g e => by have:=Option.some.inj e; omega)⟩
 have r1:=zqf7 (x:=key) h.r;have r2:=zqf8 (x:=cnt) r1;have r3:=zqda (u:=iv) r2;have r4:=zqhy (u:=nv) r3;exact ⟨st 3 _ _ _ r3 (st 2 _ _ _ r2 (st 1 _ _ _ r1 (st 0 _ _ _ h.r ⟨h.i,h.is,h.ns,h.g⟩))),r4⟩
theorem li_ex (b:List Int) (s:Nat × Nat) (hb:Bt b) (hs:OkSt b s):∃ (LI:Nat → List Wh × Nat × Nat) (EW:Nat → Wh),LI 0 = ([],s) ∧ (∀ k,(LI (k + 1)).1 = (LI k).1 ++ [EW k] ∧ (LI k).1.length = k) ∧
  (∀ N k w1,InAt w1 N b (LI k).2.1 (LI k).2.2 → Calls Tryz.prog 63 #[.pointer (some ⟨N,0,none⟩)] w1 (RwP w1 N (EW k) (LI (k + 1)).2 b)) ∧
  ∀ n,listK (fun _ s => rdWh b s) s n = LI n :=
 have hK:=fun k => zqbt (rd:=fun _ s => rdWh b s) (P:=OkSt b) (fun _ _ h => zqj7 hb h) hs k
 ⟨fun k => listK (fun _ s => rdWh b s) s k,fun k => (rdWh b (listK (fun _ s => rdWh b s) s k).2).1,rfl,fun k => ⟨rfl,(hK k).2⟩,fun N k w1 h => zqut w1 N b _ h (hK k).1 hb,fun n => rfl⟩
theorem ln_ex (b:List Int) (s:Nat × Nat) (hb:Bt b) (hs:OkSt b s):∃ (LN:Nat → List Re × Nat × Nat) (ER:Nat → Re) (S1 S2:Nat → Nat × Nat),LN 0 = ([],s) ∧ (∀ k,(LN (k + 1)).1 = (LN k).1 ++ [ER k] ∧ (LN k).1.length = k) ∧
  (∀ N k w1,InAt w1 N b (LN k).2.1 (LN k).2.2 → Calls Tryz.prog 64 #[.pointer (some ⟨N,0,none⟩),.int .i64 283] w1 fun r w' => (∃ v,r = .returned v ∧ BOwn w' w1.heap.size v (ER k).sum) ∧ InAt w' N b (S1 k).1 (S1 k).2 ∧ w1.grownBy w' (some N)) ∧
  (∀ N k w1,InAt w1 N b (S1 k).1 (S1 k).2 → Calls Tryz.prog 65 #[.pointer (some ⟨N,0,none⟩)] w1 fun r w' => r = .returned (.float .f64 (ER k).mn) ∧ InAt w' N b (S2 k).1 (S2 k).2 ∧ w1.grownBy w' (some N)) ∧
  (∀ N k w1,InAt w1 N b (S2 k).1 (S2 k).2 → Calls Tryz.prog 65 #[.pointer (some ⟨N,0,none⟩)] w1 fun r w' => r = .returned (.float .f64 (ER k).mx) ∧ InAt w' N b (LN (k + 1)).2.1 (LN (k + 1)).2.2 ∧ w1.grownBy w' (some N)) ∧
  ∀ n,listK (fun _ s => rdRe b s) s n = LN n :=
 have hK:=fun k => zqbt (rd:=fun _ s => rdRe b s) (P:=OkSt b) (fun _ _ h => zqo5 hb h) hs k
 have o1:=fun k => zqvf hb 283 (hK k).1
 have o2:=fun k => zqm9 (b:=b) (o1 k)
 ⟨fun k => listK (fun _ s => rdRe b s) s k,fun k => (rdRe b (listK (fun _ s => rdRe b s) s k).2).1,fun k => (rdR1 b (listK (fun _ s => rdRe b s) s k).2).2,fun k => (rdR2 b (listK (fun _ s => rdRe b s) s k).2).2,rfl,fun k => ⟨rfl,(hK k).2⟩,
  fun N k w1 h => zq1g w1 N b _ 283 h (hK k).1.2 (by decide),fun N k w1 h => zqte w1 N b _ h (o1 k).2,fun N k w1 h => zqte w1 N b _ h (o2 k).2,fun n => rfl⟩
theorem CeOwn.far {w w':World} {B N:Nat} {I M:Value} {c:Ce} (h:CeOwn w B I M c) (hg:w.grownBy w' (some N)) (hN:N < B):CeOwn w' B I M c:=by
 obtain ⟨ps,qs,h1,h2,h3,h4⟩:=h;exact ⟨ps,qs,h1.far hg hN,h2.far hg hN,h3,h4⟩
theorem CeOwn.setbox {w:World} {C j B:Nat} {T:TypeId} {cs:Array Value} {u I M:Value} {c:Ce} (h:CeOwn w B I M c) (hC:w.heap[C]? = some (.cells cs T (0,0))) (h1:T ≠ 45) (h2:T ≠ 27) (h3:T ≠ 48) (h4:T ≠ 5):CeOwn (w.setCell ⟨C,j,none⟩ u) B I M c:=by
 obtain ⟨ps,qs,k1,k2,k3,k4⟩:=h;exact ⟨ps,qs,k1.setbox hC h1 h2,k2.setbox hC h3 h4,k3,k4⟩
def RcP (w:World) (N:Nat) (c:Ce) (s:Nat × Nat) (b:List Int) (r:Ending) (w':World):Prop :=
 (∃ I M,r = .returned (CeV c I M) ∧ CeOwn w' w.heap.size I M c) ∧ InAt w' N b s.1 s.2 ∧ w.grownBy w' (some N)
abbrev boxR (q:Value) (x1 x2:Nat):Array Value:=#[q,.float .f64 x1,.float .f64 x2]
theorem zqdz {w:World} {K:Nat} {x1 x2:Nat} {q:Value} {T:TypeId} (h:w.heap[K]? = some (.cells (boxR q x1 x2) T (0,0))):(w.cell? ⟨K,0,none⟩ = some q ∧ w.cell? ⟨K,1,none⟩ = some (.float .f64 x1) ∧ w.cell? ⟨K,2,none⟩ = some (.float .f64 x2)) ∧ ∀ j,w.frozen? ⟨K,j,none⟩ = false :=
 ⟨⟨by simp [World.cell?,h],by simp [World.cell?,h],by simp [World.cell?,h]⟩,fun j => by simp [World.frozen?,h]⟩
structure Rx (w wr:World) (N:Nat) (b:List Int) (s:Nat × Nat) (D I M V:Value) (key cnt:Int) (iv:Value) (ps:List (Value × Wh)) (nv:Value) (qs:List (Value × Re)) (K:Nat) (q:Value) (l:List Int) (x1 x2:Nat):Prop where
 c:Rc w wr N b s D I M V key cnt iv ps nv qs
 x:wr.heap[K]? = some (.cells (boxR q x1 x2) 48 (0,0))
 o:BOwn wr w.heap.size q l
 lt:w.heap.size + 2 < K
 ne:∀ g,nv.ownBlock = some g → g < K
theorem zqyp {w wr:World} {N:Nat} {b:List Int} {s:Nat × Nat} {D I M V:Value} {key cnt:Int} {iv nv:Value} {ps:List (Value × Wh)} {qs:List (Value × Re)} (h:Rc w wr N b s D I M V key cnt iv ps nv qs):Rx w (wr.alloc (.cells #[.slice none 0 0,.float .f64 0,.float .f64 0] 48)) N b s D I M V key cnt iv ps nv qs wr.heap.size (.slice none 0 0) [] 0 0 :=
 ⟨h.below (zqab _ _),heap_alloc_new wr _,own0 _ _,h.sz,fun g e => (h.ns.1.lt g e).2⟩
theorem Rx.call {w wr:World} {N:Nat} {b:List Int} {s:Nat × Nat} {D I M V:Value} {key cnt:Int} {iv nv:Value} {ps:List (Value × Wh)} {qs:List (Value × Re)} {K:Nat} {q:Value} {l:List Int} {x1 x2:Nat} (h:Rx w wr N b s D I M V key cnt iv ps nv qs K q l x1 x2) {w1:World} {t:Nat × Nat} (hi:InAt w1 N b t.1 t.2) (hg:wr.grownBy w1 (some N)):Rx w w1 N b t D I M V key cnt iv ps nv qs K q l x1 x2 :=
 have hn:=h.c.n;have hl:=h.lt
 ⟨h.c.call hi hg,zqaj h.x hg (by omega),zqd4 h.o hg hn,hl,h.ne⟩
theorem Rx.set {w wr:World} {N:Nat} {b:List Int} {s:Nat × Nat} {D I M V:Value} {key cnt:Int} {iv nv:Value} {ps:List (Value × Wh)} {qs:List (Value × Re)} {K j:Nat} {q q' u:Value} {l l':List Int} {x1 x2 y1 y2:Nat} (h:Rx w wr N b s D I M V key cnt iv ps nv qs K q l x1 x2) (hx:(wr.setCell ⟨K,j,none⟩ u).heap[K]? = some (.cells (boxR q' y1 y2) 48 (0,0))) (ho:BOwn wr w.heap.size q' l'):Rx w (wr.setCell ⟨K,j,none⟩ u) N b s D I M V key cnt iv ps nv qs K q' l' y1 y2:=by
 have hn:=h.c.n;have hl:=h.lt;have hg:=zqae wr K j u;exact ⟨⟨h.c.i.far h.x (by decide) (by omega) hg,zqaj h.c.x hg (by omega),zqaj h.c.r hg (by omega),zqaj h.c.k hg (by omega),h.c.is.setbox h.x (by decide) (by decide),⟨ownsRow_setCell_other h.c.ns.1 (fun e => absurd (h.ne K e) (Nat.lt_irrefl K)) u,fun p hp => zqak (h.c.ns.2 p hp) h.x (by decide)⟩,zqbd h.c.g hg (fun g e => by have:=Option.some.inj e; omega),hn⟩,hx,zqak ho h.x (by decide),hl,h.ne⟩
theorem zqsc {w:World} {K x1 x2:Nat} {q u:Value} {T:TypeId} (h:w.heap[K]? = some (.cells (boxR q x1 x2) T (0,0))):(w.setCell ⟨K,0,none⟩ u).heap[K]? = some (.cells (boxR u x1 x2) T (0,0)):=by
 simp [World.setCell,Array.getElem?_modify,h]
theorem zqsd {w:World} {K x1 x2 y:Nat} {q:Value} {T:TypeId} (h:w.heap[K]? = some (.cells (boxR q x1 x2) T (0,0))):(w.setCell ⟨K,1,none⟩ (.float .f64 y)).heap[K]? = some (.cells (boxR q y x2) T (0,0)):=by
 simp [World.setCell,Array.getElem?_modify,h]
theorem zqse {w:World} {K x1 x2 y:Nat} {q:Value} {T:TypeId} (h:w.heap[K]? = some (.cells (boxR q x1 x2) T (0,0))):(w.setCell ⟨K,2,none⟩ (.float .f64 y)).heap[K]? = some (.cells (boxR q x1 y) T (0,0)):=by
 simp [World.setCell,Array.getElem?_modify,h]
set_option maxHeartbeats 16000000 in
theorem zqn7 (w:World) (D I M V:Value) (S:Sc) (N:Nat) (b:List Int) (s:Nat × Nat) (h:Sch4 w D I M V S) (hin:InAt w N b s.1 s.2) (hs:OkSt b s) (hb:Bt b) (hl:S.is.length ≤ 100 ∧ S.ns.length ≤ 100) :
  Calls Tryz.prog 29 #[SchV D I M V,.pointer (some ⟨N,0,none⟩)] w (RcP w N (rdCe b S.is.length S.ns.length s).1 (rdCe b S.is.length S.ns.length s).2 b):=by
 obtain ⟨i0,hi,hz0,hz1,hz2⟩:=info_parts Tryz.infoWhole;obtain ⟨j0,hj,hy0,hy1,hy2⟩:=info_parts Tryz.infoReal;have o1:OkSt b (rdC1 b s).2:=zqg2 hb _ hs;have o2:OkSt b (rdC2 b s).2:=zqc6 o1;have o3:OkSt b (rdC3 b S.is.length s).2:=(zqbt (rd:=fun _ s => rdWh b s) (P:=OkSt b) (fun _ _ h => zqj7 hb h) o2 _).1
 have H1:=zh (fun w1 (h:InAt w1 N b s.1 s.2) => show Calls Tryz.prog 61 #[.pointer (some ⟨N,0,none⟩),.int .u64 18446744073709551615] w1 (fun r w' => r = .returned (.int .u64 (rdC1 b s).1) ∧ InAt w' N b (rdC1 b s).2.1 (rdC1 b s).2.2 ∧ w1.grownBy w' (some N)) from zqmk w1 N b s _ h hs.2)
 have H2:=zh (fun w1 (h:InAt w1 N b (rdC1 b s).2.1 (rdC1 b s).2.2) => show Calls Tryz.prog 62 #[.pointer (some ⟨N,0,none⟩)] w1 (fun r w' => r = .returned (.int .i64 (rdC2 b s).1) ∧ InAt w' N b (rdC2 b s).2.1 (rdC2 b s).2.2 ∧ w1.grownBy w' (some N)) from zqgj w1 N b (rdC1 b s).2 h o1.2)
 obtain ⟨LI,EW,hL0,hL1,hL2,hL3⟩:=li_ex b (rdC2 b s).2 hb o2;obtain ⟨LN,ER,S1,S2,hN0,hN1,hN2,hN3,hN4,hN5⟩:=ln_ex b (rdC3 b S.is.length s).2 hb o3;have h3:rdC3 b S.is.length s = LI S.is.length:=hL3 _;have h4:rdC4 b S.is.length S.ns.length s = LN S.ns.length:=hN5 _;have HR0:=zh (zqyb (D:=D) (I:=I) (M:=M) (V:=V) hin);show Calls Tryz.prog 29 #[SchV D I M V,.pointer (some ⟨N,0,none⟩)] w (RcP w N ⟨(rdC1 b s).1,(rdC2 b s).1,(rdC3 b S.is.length s).1,(rdC4 b S.is.length S.ns.length s).1⟩ (rdC4 b S.is.length S.ns.length s).2 b)
 rw [h4,h3];rw [h3] at hN0;have HL0:=zh hL0;have HL1:=zh hL1;have HL2:=zh (hL2 N);have HN0:=zh hN0;have HN1:=zh hN1;have HN2:=zh (hN2 N);have HN3:=zh (hN3 N);have HN4:=zh (hN4 N);have HLs:=zh hl;obtain ⟨⟨a,c,rfl⟩,⟨a2,c2,rfl⟩,⟨a3,c3,rfl⟩,a4,c4,rfl⟩:=h.slices;generalize (rdC1 b s).1 = v1 at *;generalize (rdC2 b s).1 = v2 at *;generalize (rdC1 b s).2 = s1 at *;generalize (rdC2 b s).2 = s2 at *;generalize (rdC3 b S.is.length s).2 = s3 at *;generalize S.is.length = ni at *;generalize S.ns.length = nn at *;generalize S.ds.length = nd at *;generalize S.vs.length = nvs at *;clear o1 o2 o3 hL0 hL1 hL2 hL3 hN0 hN1 hN2 hN3 hN4 hN5 h3 h4 h hin hs hb hl;go_enter Tryz.func29,Tryz.ntmps29;go_upto_region 2 with fail;generalize ((w.alloc (SchO (.slice a nd c) (.slice a2 ni c2) (.slice a3 nn c3) (.slice a4 nvs c4))).alloc (.cells #[.int .u64 0,.int .i64 0,.slice none 0 0,.slice none 0 0] 32)).alloc (.cells #[.int .u64 0,.int .i64 0,.slice none 0 0,.slice none 0 0] 32) = W0 at *;go_wp2_with fail;refine (H1.out _ HR0.out.i).mono ?_; rintro r w1 ⟨rfl,hi1,hg1⟩;have HR1:=zh (HR0.out.call hi1 hg1);clear hi1 hg1;obtain ⟨⟨e0,e1,e2,e3⟩,ef⟩:=zqad HR1.out.k;go_upto_region 3 with fail;have HR2:=zh (HR1.out.set (zqf7 (x:=v1) HR1.out.k));generalize w1.setCell ⟨w.heap.size + 2,0,none⟩ (.int .u64 v1) = w2 at *;clear e0 e1 e2 e3 ef;go_wp2_with fail;refine (H2.out _ HR2.out.i).mono ?_; rintro r w3 ⟨rfl,hi1,hg1⟩;have HR3:=zh (HR2.out.call hi1 hg1);clear hi1 hg1;obtain ⟨⟨e0,e1,e2,e3⟩,ef⟩:=zqad HR3.out.k;go_upto_region 4 with fail;have HR4:=zh (HR3.out.set (zqf8 (x:=v2) HR3.out.k));generalize w3.setCell ⟨w.heap.size + 2,1,none⟩ (.int .i64 v2) = w4 at *;clear e0 e1 e2 e3 ef;have HR5:=zh (show Rc w w4 N b (LI 0).2 (.slice a nd c) (.slice a2 ni c2) (.slice a3 nn c3) (.slice a4 nvs c4) v1 v2 (.slice none 0 0) [] (.slice none 0 0) [] ∧ ([]:List (Value × Wh)).map Prod.snd = (LI 0).1 by rw [HL0.out]; exact ⟨HR4.out,rfl⟩)
 obtain ⟨x0,x1,x2,x3⟩:=HR4.out.x.reads;go_wp2_with fail;clear x0 x1 x2 x3;go_loopw [16] (fun i wr => ∃ (k:Nat) (iv:Value) (ps:List (Value × Wh)),k ≤ ni ∧ i = .int .i64 k ∧ Hid (Rc w wr N b (LI k).2 (.slice a nd c) (.slice a2 ni c2) (.slice a3 nn c3) (.slice a4 nvs c4) v1 v2 iv ps (.slice none 0 0) [] ∧ ps.map Prod.snd = (LI k).1)) (fun i _ => ni - (intOf i).toNat)
 case atStart => exact ⟨0,_,[],Nat.zero_le _,rfl,HR5⟩
 case round =>
  obtain ⟨k,iv,ps,hk,rfl,HS⟩:=hrel;obtain ⟨ip,ic,hq⟩:=zqag HS.out.1.is.1;subst hq
  by_cases hlk:k < ni
  ·have hlk':(k:Int) < (ni:Int):=by omega
   have hle:Hid (k + 1 ≤ ni):=zh (by omega)
   obtain ⟨l1,l2⟩:=HL1.out k;have hni:=HLs.out.1;have i1:wrap64 ((k:Int) + 1) = (k:Int) + 1:=wrap64_in (by omega) (by omega)
   have HC:=zh (HL2.out k);have HPs:=zh (show ps.length ≤ 100 by have:=congrArg List.length HS.out.2; rw [List.length_map,l2] at this; have:=HLs.out.1; omega)
   have HNx:=zh (show ∀ q,(ps ++ [(q,EW k)]).map Prod.snd = (LI (k + 1)).1 by intro q; rw [l1,← HS.out.2]; simp)
   generalize EW k = z at *;obtain ⟨z0,z1,lz,z3,z4⟩:=z;obtain ⟨⟨e0,e1,e2,e3⟩,ef⟩:=zqad HS.out.1.k;clear l1 l2;go_upto_region 6 with fail;have hk:wr.drew.cell? ⟨w.heap.size + 2,2,none⟩ = some (.slice ip ps.length ic):=e2;have HSd:=zh (HS.out.1.below (Below.refl _ _).drew);clear e0 e1 e2 e3 ef;refine zqfa (S:=fun w' => w'.cell? ⟨w.heap.size + 2,2,none⟩ = some (.slice ip ps.length ic)) 7 (by kernel_rfl) hk (fun _ => ?_)
   refine tkZ 0 18 (.pointer (some ⟨w.heap.size + 2,2,none⟩)) rfl hk ?_;try simp only [pS]
   refine tkZ 1 19 (.slice ip ps.length ic) rfl hk ?_;try simp only [pS]
   refine tkZ 2 20 (.pointer (some ⟨N,0,none⟩)) rfl hk ?_;try simp only [pS]
   refine zqci (i:=3) (by kernel_rfl) rfl (fun K' hK => ?_)
   rw [if_pos (by kernel_rfl)]
   go_simp;go_at_call 63;refine (HC.out _ HSd.out.i).mono ?_;rintro r w6 ⟨⟨q,rfl,hq⟩,hi1,hg1⟩;obtain ⟨pq,cq,rfl⟩:=zqag hq;have HS6:=zh (HSd.out.call hi1 hg1);have HQ:=zh (zqaw hq (show w.heap.size ≤ wr.drew.heap.size by have:=HSd.out.sz; omega))
   replace hk:=(zqad HS6.out.k).1.2.2.1;clear hi1 hg1 hq;refine hK.out _ _ hk ?_;try simp only []
   clear hK;refine zqci (i:=4) (by kernel_rfl) rfl (fun K' hK => ?_)
   rw [if_pos (by kernel_rfl)]
   go_simp;have HS7:=zh (HS6.out.below (zqab w6 (.cells #[.int .i64 z0,.int .i64 z1,.slice pq lz.length cq,.int .i64 z3,.int .i64 z4] 45)));replace hk:=(zqad HS7.out.k).1.2.2.1;refine hK.out _ _ hk ?_;try simp only [pS]
   clear hK;refine zqci (i:=5) (by kernel_rfl) rfl (fun K' hK => ?_)
   refine zqcj _ (by rfl) _ _ _ (by rfl) w.heap.size 45 i0 (.agg #[.int .i64 0,.int .i64 0,.slice none 0 0,.int .i64 0,.int .i64 0]) 5 56 Tryz.underlying29 hi hz0 hz1 hz2 zqek (by decide) _ ps.length (cellsW ps) (by rfl) HS7.out.is.1 ⟨w6.heap.size,0,none⟩ 1 1 [.int .i64 z0,.int .i64 z1,.slice pq lz.length cq,.int .i64 z3,.int .i64 z4] (by rfl) (by rfl) (World.news_of_block (heap_alloc_new w6 _)) (by intro u hu; simp at hu; rcases hu with rfl | rfl | rfl | rfl | rfl <;> rfl) (by have:=HPs.out; unfold maxLen; omega) (by have:=HPs.out; omega) (by have:=HS7.out.sz; omega) ?_
   intro v' w7 hown hgrow;have HZ:=zh (WsOwn.push (x:=⟨z0,z1,lz,z3,z4⟩) HS7.out.is (zqav HQ.out (zqab _ _)) hown hgrow);have HS8:=zh (HS7.out.rowI HZ.out hgrow);have hc7:=(zqad HS8.out.1).1;have hf7:=(zqad HS8.out.1).2;replace hk:=hc7.2.2.1;obtain ⟨pv',cv',rfl⟩:=zqag hown;clear hown hgrow;refine hK.out _ _ hk ?_;try simp only [pS]
   clear hK;refine tkZ 6 24 (.pointer (some ⟨w.heap.size + 2,2,none⟩)) rfl hk ?_;try simp only [pS]
   obtain ⟨-,-,e2,-⟩:=hc7;refine zqio (by kernel_rfl) rfl (fun K' hK => ?_)
   rw [if_pos (by kernel_rfl)]
   go_simp;refine hK.out _ _ ?_;try simp only [Act.put]
   clear hK;refine zqin (by kernel_rfl) ?_ _
   have HS9:=zh HS8.out.2;generalize w7.setCell ⟨w.heap.size + 2,2,none⟩ (.slice pv' (ps.length + 1) cv') = w8 at *;clear e2 hf7 hk HS8 HS7 HS6 HSd HZ;go_wp2_with fail;go_roundw
   case rel => exact ⟨k + 1,_,ps ++ [(.slice pq lz.length cq,⟨z0,z1,lz,z3,z4⟩)],hle.out,by go_num,zh ⟨HS9.out,HNx.out _⟩⟩
   case measure => simp [intOf]; omega
  ·obtain rfl:k = ni:=by omega
   have HT0:=zh (show Rc w wr N b (LN 0).2 (.slice a nd c) (.slice a2 k c2) (.slice a3 nn c3) (.slice a4 nvs c4) v1 v2 (.slice ip ps.length ic) ps (.slice none 0 0) [] ∧ ([]:List (Value × Re)).map Prod.snd = (LN 0).1 by rw [HN0.out]; exact ⟨HS.out.1,rfl⟩)
   have HPI:=zh HS.out.2;obtain ⟨x0,x1,x2,x3⟩:=HS.out.1.x.reads;clear HS HR5 HL0 HL1 HL2;generalize (LI k).1 = RI at *;generalize ps.length = pl at *;go_wp2_with fail;clear x0 x1 x2 x3;generalize wr = wq at *;go_loopw [29] (fun i wr => ∃ (j:Nat) (nv:Value) (qs:List (Value × Re)),j ≤ nn ∧ i = .int .i64 j ∧ Hid (Rc w wr N b (LN j).2 (.slice a nd c) (.slice a2 k c2) (.slice a3 nn c3) (.slice a4 nvs c4) v1 v2 (.slice ip pl ic) ps nv qs ∧ qs.map Prod.snd = (LN j).1)) (fun i _ => nn - (intOf i).toNat)
   case atStart => exact ⟨0,_,[],Nat.zero_le _,rfl,HT0⟩
   case round =>
    obtain ⟨j,nv,qs,hjn,rfl,HS⟩:=hrel;obtain ⟨np,nc,hq⟩:=zqag HS.out.1.ns.1;subst hq
    by_cases hlj:j < nn
    ·have hlj':(j:Int) < (nn:Int):=by omega
     have hle:Hid (j + 1 ≤ nn):=zh (by omega)
     obtain ⟨l1,l2⟩:=HN1.out j;have hnn:=HLs.out.2;have i1:wrap64 ((j:Int) + 1) = (j:Int) + 1:=wrap64_in (by omega) (by omega)
     have HC1:=zh (HN2.out j);have HC2:=zh (HN3.out j);have HC3:=zh (HN4.out j);have HPs:=zh (show qs.length ≤ 100 by have:=congrArg List.length HS.out.2; rw [List.length_map,l2] at this; have:=HLs.out.2; omega)
     have HNx:=zh (show ∀ q,(qs ++ [(q,ER j)]).map Prod.snd = (LN (j + 1)).1 by intro q; rw [l1,← HS.out.2]; simp)
     generalize ER j = z at *;obtain ⟨lz,z1,z2⟩:=z;have HX0:=zh (zqyp HS.out.1);have hsf:=fun (w:World) (a:Addr) (m:Mode) (k:Nat) => zqba (P:=Tryz.prog) (w:=w) (a:=a) (m:=m) k
     clear l1 l2;go_upto_region 11 with fail;obtain ⟨XK,hXK⟩:∃ XK,wr.heap.size = XK:=⟨_,rfl⟩
     generalize wr.alloc (.cells #[.slice none 0 0,.float .f64 0,.float .f64 0] 48) = W1 at *;rw [hXK] at HX0 ⊢;clear hXK;go_wp2_with fail;refine (HC1.out _ HX0.out.c.i).mono ?_; rintro r w2 ⟨⟨q,rfl,hq⟩,hi1,hg1⟩;have HX1:=zh (HX0.out.call hi1 hg1);have HQ:=zh (zqbu hq (show w.heap.size ≤ W1.heap.size by have:=HX0.out.c.sz; omega))
     clear hi1 hg1;obtain ⟨pq,lq,cq,rfl⟩:=zqac hq;clear hq;obtain ⟨⟨e0,e1,e2⟩,ef⟩:=zqdz HX1.out.x;go_upto_region 12 with fail;have HX2:=zh (HX1.out.set (zqsc (u:=.slice pq lq cq) HX1.out.x) HQ.out);generalize w2.setCell ⟨XK,0,none⟩ (.slice pq lq cq) = w3 at *;clear e0 e1 e2 ef HQ;go_wp2_with fail;refine (HC2.out _ HX2.out.c.i).mono ?_; rintro r w4 ⟨rfl,hi1,hg1⟩;have HX3:=zh (HX2.out.call hi1 hg1);clear hi1 hg1;obtain ⟨⟨e0,e1,e2⟩,ef⟩:=zqdz HX3.out.x;go_upto_region 13 with fail;have HX4:=zh (HX3.out.set (zqsd (y:=z1) HX3.out.x) HX3.out.o);generalize w4.setCell ⟨XK,1,none⟩ (.float .f64 z1) = w5 at *;clear e0 e1 e2 ef;go_wp2_with fail;refine (HC3.out _ HX4.out.c.i).mono ?_; rintro r w6 ⟨rfl,hi1,hg1⟩;have HX5:=zh (HX4.out.call hi1 hg1);clear hi1 hg1;obtain ⟨⟨e0,e1,e2⟩,ef⟩:=zqdz HX5.out.x;go_upto_region 14 with fail;have HX6:=zh (HX5.out.set (zqse (y:=z2) HX5.out.x) HX5.out.o);generalize w6.setCell ⟨XK,2,none⟩ (.float .f64 z2) = w7 at *;clear e0 e1 e2 ef;obtain ⟨⟨e0,e1,e2⟩,ef⟩:=zqdz HX6.out.x;obtain ⟨⟨f0,f1,f2,f3⟩,ff⟩:=zqad HX6.out.c.k;have HX7:=zh (HX6.out.c.below (zqab w7 (.cells #[.slice pq lq cq,.float .f64 z1,.float .f64 z2] 48)));have HQ:=zh (zqai HX6.out.o (zqab w7 (.cells #[.slice pq lq cq,.float .f64 z1,.float .f64 z2] 48)));go_wp2_with (at_builtin; refine wpList_append_own _ rfl _ _ 30 rfl w.heap.size 48 j0 (.agg #[.slice none 0 0,.float .f64 0,.float .f64 0]) 3 40 Tryz.underlying30 hj hy0 hy1 hy2 zqfb (by decide) _ _ (cellsR qs) rfl HX7.out.ns.1 ⟨w7.heap.size,0,none⟩ 1 1 [.slice pq lq cq,.float .f64 z1,.float .f64 z2] rfl rfl (World.news_of_block (heap_alloc_new w7 _)) (by intro u hu; simp at hu; rcases hu with rfl | rfl | rfl <;> rfl) (by have:=HPs.out; unfold maxLen; omega) (by have:=HPs.out; omega) (by have:=HX7.out.sz; omega) ?_; intro v' w9 hown hgrow hiff; clear hiff; have HZ:=zh (RsOwn.push (x:=⟨lz,z1,z2⟩) HX7.out.ns HQ.out hown hgrow); have HS8:=zh (HX7.out.rowN HZ.out hgrow); have hc7:=(zqad HS8.out.1).1; have hf7:=(zqad HS8.out.1).2; obtain ⟨pv',cv',rfl⟩:=zqag hown; clear hown hgrow e0 e1 e2 ef f0 f1 f2 f3 ff; obtain ⟨g0,g1,g2,g3⟩:=hc7)
     have HS9:=zh HS8.out.2;generalize w9.setCell ⟨w.heap.size + 2,3,none⟩ (.slice pv' (qs.length + 1) cv') = w10 at *;go_roundw
     case rel => exact ⟨j + 1,_,qs ++ [(.slice pq lq cq,⟨lz,z1,z2⟩)],hle.out,by go_num,zh ⟨HS9.out,HNx.out _⟩⟩
     case measure => simp [intOf]; omega
    ·obtain rfl:j = nn:=by omega
     obtain ⟨⟨e0,e1,e2,e3⟩,ef⟩:=zqad HS.out.1.k;obtain ⟨⟨r0,r1,r2,r3⟩,rf⟩:=zqad HS.out.1.r;have HF:=zh (zq1t HS.out.1);have HPN:=zh HS.out.2;go_wp2_with fail;generalize (((wr.setCell ⟨w.heap.size + 1,0,none⟩ (.int .u64 v1)).setCell ⟨w.heap.size + 1,1,none⟩ (.int .i64 v2)).setCell ⟨w.heap.size + 1,2,none⟩ (.slice ip pl ic)).setCell ⟨w.heap.size + 1,3,none⟩ (.slice np qs.length nc) = W9 at *;obtain ⟨⟨h1,h2,h3,h4⟩,h5⟩:=HF.out;obtain ⟨⟨r0,r1,r2,r3⟩,-⟩:=zqad h5;exact bodyPost_ret (v:=CeV ⟨v1,v2,RI,(LN j).1⟩ (.slice ip pl ic) (.slice np qs.length nc)) (by simp [results,Tryz.results29,go_sem,r0,r1,r2,r3]) rfl ⟨⟨_,_,rfl,ps,qs,h2,h3,HPI.out,HPN.out⟩,h1,h4⟩
def allW (l:List Wh):Bool:=(List.range l.length).all fun k => rightW (wg l k)
def allR (l:List Re):Bool:=(List.range l.length).all fun k => rightR (rg l k)
theorem zql1 {l:List Wh} (h:∀ k,k < l.length → rightW (wg l k) = true):allW l = true:=List.all_eq_true.2 fun x hx => h x (by simpa using hx)
theorem zqfm {l:List Re} (h:∀ k,k < l.length → rightR (rg l k) = true):allR l = true:=List.all_eq_true.2 fun x hx => h x (by simpa using hx)
theorem zqju {l:List Wh} {k:Nat} (hk:k < l.length) (h:rightW (wg l k) = false):allW l = false:=List.all_eq_false.2 ⟨k,by simpa using hk,by simp [h]⟩
theorem zqfc {l:List Re} {k:Nat} (hk:k < l.length) (h:rightR (rg l k) = false):allR l = false:=List.all_eq_false.2 ⟨k,by simpa using hk,by simp [h]⟩
theorem zqsl (w:World) (x0 x1 x3 x4:Int) (lx:List Int) (p:Option Addr) (c:Nat) (hq:Ints .u32 w (.slice p lx.length c) lx) (hx:WhW ⟨x0,x1,lx,x3,x4⟩) :
  Calls Tryz.prog 68 #[.agg #[.int .i64 x0,.int .i64 x1,.slice p lx.length c,.int .i64 x3,.int .i64 x4]] w fun e w' => e = .returned (.bool (!rightW ⟨x0,x1,lx,x3,x4⟩)) ∧ Below w.heap.size w w':=by
 have HV:=zh (fun w1 (hb:Below w.heap.size w w1) => zqrz w1 x0 x1 x3 x4 lx p c (hq.below hb) hx)
 have HX:=zh (show (w.alloc (.cells #[.int .i64 x0,.int .i64 x1,.slice p lx.length c,.int .i64 x3,.int .i64 x4] 45)).heap[w.heap.size]? = some (.cells #[.int .i64 x0,.int .i64 x1,.slice p lx.length c,.int .i64 x3,.int .i64 x4] 45 (0,0)) from heap_alloc_new w _);have HB:=zh (zqab w (.cells #[.int .i64 x0,.int .i64 x1,.slice p lx.length c,.int .i64 x3,.int .i64 x4] 45));generalize rightW ⟨x0,x1,lx,x3,x4⟩ = R at *;clear hq hx;go_enter Tryz.func68,Tryz.ntmps68;go_upto_region 1 with fail;generalize w.alloc (.cells #[.int .i64 x0,.int .i64 x1,.slice p lx.length c,.int .i64 x3,.int .i64 x4] 45) = W at *;obtain ⟨f0,f1,f2,f3,f4⟩:=row5 HX.out;go_wp2_with fail;refine (HV.out _ HB.out).mono ?_; rintro e w1 ⟨rfl,hb1⟩;have HB1:=zh (zqaa HB.out hb1);clear f0 f1 f2 f3 f4 hb1;go_wp2_with fail;go_ret;exact ⟨rfl,HB1.out⟩
set_option maxHeartbeats 4000000 in
theorem zqw2 (w:World) (u:Value) (l:List Wh) (hu:Wholes w u l) (hw:∀ x ∈ l,WhW x) :
  Calls Tryz.prog 115 #[u,.func (.func 68) #[] #[]] w fun e w' => (∃ r:Int,e = .returned (.int .i64 r) ∧ decide (0 ≤ r) = !allW l) ∧ Below w.heap.size w w':=by
 have HU:=zh hu;have HW:=zh (fun k (hk:k < l.length) => show WhW (wg l k) by rw [zqa5 hk]; exact hw _ (List.getElem_mem _))
 have HY:=zh (@zql1 l);have HN:=zh (fun k (hk:k < l.length) (h:rightW (wg l k) = false) => zqju hk h)
 obtain ⟨a,cap,rfl,-,hm,-⟩:=hu;generalize allW l = R at *;clear hw;go_enter Tryz.func115,Tryz.ntmps115;go_wp2_with fail;go_loopw [8] (fun iv wr => ∃ k:Nat,k ≤ l.length ∧ iv = .int .i64 k ∧ Hid (Below w.heap.size w wr ∧ ∀ j,j < k → rightW (wg l j) = true)) (fun iv _ => l.length - (intOf iv).toNat)
 case atStart => exact ⟨0,Nat.zero_le _,rfl,zh ⟨Below.refl _ _,fun j hj => by omega⟩⟩
 case round =>
  obtain ⟨k,hk,rfl,HS⟩:=hrel
  by_cases hlk:k < l.length
  ·have hlk':(k:Int) < (l.length:Int):=by omega
   have hle:Hid (k + 1 ≤ l.length):=zh (by omega)
   obtain ⟨b,off,q,rfl,hq⟩:=(HU.out.below HS.out.1).at hlk;obtain ⟨f0,f1,f2,f3,f4,f9⟩:=hq;have HWk:=HW.out k hlk;have HNk:=zh (fun h => HN.out k hlk h)
   have HSn:=zh (fun (h:rightW (wg l k) = true) j (hj:j < k + 1) => show rightW (wg l j) = true from if e:j = k then e ▸ h else HS.out.2 j (by omega))
   have HBk:=zh HS.out.1;generalize wg l k = x at *;obtain ⟨x0,x1,lx,x3,x4⟩:=x;have hf:=f9;obtain ⟨p,c,rfl,-,-⟩:=f9;have HC:=zh (zqsl wr x0 x1 x3 x4 lx p c hf HWk)
   dsimp only at f0 f1 f2 f3 f4
   clear hf HWk HS;generalize rightW ⟨x0,x1,lx,x3,x4⟩ = T at *;go_wp2_with fail;refine HC.out.mono ?_; rintro e w1 ⟨rfl,hb1⟩;have HB1:=zh (zqaa HBk.out hb1);clear hb1 HC f0 f1 f2 f3 f4;cases T with
   | true =>
    have HJ:=zh (HSn.out rfl);go_wp2_with fail;go_roundw
    case rel => exact ⟨k + 1,hle.out,by go_num,zh ⟨HB1.out,HJ.out⟩⟩
    case measure => simp [intOf]; omega
   | false =>
    have hR:=HNk.out rfl;subst hR;go_wp2_with fail;go_ret;exact ⟨⟨_,rfl,decide_eq_true (by omega)⟩,HB1.out⟩
  ·have:k = l.length:=by omega
   subst this;have hR:=HY.out HS.out.2;subst hR;go_wp2_with fail;go_ret;exact ⟨⟨-1,rfl,by decide⟩,HS.out.1⟩
theorem zqv7 (w:World) (u:Value) (l:List Wh) (hu:Wholes w u l) (hw:∀ x ∈ l,WhW x) :
  Calls Tryz.prog 67 #[u,.func (.func 68) #[] #[]] w fun e w' => e = .returned (.bool (!allW l)) ∧ Below w.heap.size w w':=by
 have HI:=zh (zqw2 w u l hu hw);obtain ⟨a,cap,rfl,-,hm,-⟩:=hu;generalize allW l = R at *;clear hw;go_enter Tryz.func67,Tryz.ntmps67;go_wp2_with fail;refine HI.out.mono ?_; rintro e w1 ⟨⟨r,rfl,hr⟩,hb⟩;have HB:=zh hb;clear hb HI;go_wp2_with fail;go_ret;exact ⟨by first | rfl | rw [← hr] | (rw [← hr]; rfl),HB.out⟩
theorem zqsk (w:World) (x1 x2:Nat) (lx:List Int) (p:Option Addr) (c:Nat) (hq:Ints .u8 w (.slice p lx.length c) lx) (hx:ReW ⟨lx,x1,x2⟩) :
  Calls Tryz.prog 71 #[.agg #[.slice p lx.length c,.float .f64 x1,.float .f64 x2]] w fun e w' => e = .returned (.bool (!rightR ⟨lx,x1,x2⟩)) ∧ Below w.heap.size w w':=by
 have HV:=zh (fun w1 (hb:Below w.heap.size w w1) => zqvo w1 x1 x2 lx p c (hq.below hb) hx)
 have HX:=zh (show (w.alloc (.cells #[.slice p lx.length c,.float .f64 x1,.float .f64 x2] 48)).heap[w.heap.size]? = some (.cells #[.slice p lx.length c,.float .f64 x1,.float .f64 x2] 48 (0,0)) from heap_alloc_new w _);have HB:=zh (zqab w (.cells #[.slice p lx.length c,.float .f64 x1,.float .f64 x2] 48));generalize rightR ⟨lx,x1,x2⟩ = R at *;clear hq hx;go_enter Tryz.func71,Tryz.ntmps71;go_upto_region 1 with fail;generalize w.alloc (.cells #[.slice p lx.length c,.float .f64 x1,.float .f64 x2] 48) = W at *;obtain ⟨f0,f1,f2⟩:=row3 HX.out;go_wp2_with fail;refine (HV.out _ HB.out).mono ?_; rintro e w1 ⟨rfl,hb1⟩;have HB1:=zh (zqaa HB.out hb1);clear f0 f1 f2 hb1;go_wp2_with fail;go_ret;exact ⟨rfl,HB1.out⟩
set_option maxHeartbeats 4000000 in
theorem zqw1 (w:World) (u:Value) (l:List Re) (hu:Reals w u l) (hw:∀ x ∈ l,ReW x) :
  Calls Tryz.prog 117 #[u,.func (.func 71) #[] #[]] w fun e w' => (∃ r:Int,e = .returned (.int .i64 r) ∧ decide (0 ≤ r) = !allR l) ∧ Below w.heap.size w w':=by
 have HU:=zh hu;have HW:=zh (fun k (hk:k < l.length) => show ReW (rg l k) by rw [zqax hk]; exact hw _ (List.getElem_mem _))
 have HY:=zh (@zqfm l);have HN:=zh (fun k (hk:k < l.length) (h:rightR (rg l k) = false) => zqfc hk h)
 obtain ⟨a,cap,rfl,-,hm,-⟩:=hu;generalize allR l = R at *;clear hw;go_enter Tryz.func117,Tryz.ntmps117;go_wp2_with fail;go_loopw [8] (fun iv wr => ∃ k:Nat,k ≤ l.length ∧ iv = .int .i64 k ∧ Hid (Below w.heap.size w wr ∧ ∀ j,j < k → rightR (rg l j) = true)) (fun iv _ => l.length - (intOf iv).toNat)
 case atStart => exact ⟨0,Nat.zero_le _,rfl,zh ⟨Below.refl _ _,fun j hj => by omega⟩⟩
 case round =>
  obtain ⟨k,hk,rfl,HS⟩:=hrel
  by_cases hlk:k < l.length
  ·have hlk':(k:Int) < (l.length:Int):=by omega
   have hle:Hid (k + 1 ≤ l.length):=zh (by omega)
   obtain ⟨b,off,q,rfl,hq⟩:=(HU.out.below HS.out.1).at hlk;obtain ⟨f0,f1,f2,f9⟩:=hq;have HWk:=HW.out k hlk;have HNk:=zh (fun h => HN.out k hlk h)
   have HSn:=zh (fun (h:rightR (rg l k) = true) j (hj:j < k + 1) => show rightR (rg l j) = true from if e:j = k then e ▸ h else HS.out.2 j (by omega))
   have HBk:=zh HS.out.1;generalize rg l k = x at *;obtain ⟨lx,x1,x2⟩:=x;have hf:=f9;obtain ⟨p,c,rfl,-,-⟩:=f9;have HC:=zh (zqsk wr x1 x2 lx p c hf HWk)
   dsimp only at f0 f1 f2
   clear hf HWk HS;generalize rightR ⟨lx,x1,x2⟩ = T at *;go_wp2_with fail;refine HC.out.mono ?_; rintro e w1 ⟨rfl,hb1⟩;have HB1:=zh (zqaa HBk.out hb1);clear hb1 HC f0 f1 f2;cases T with
   | true =>
    have HJ:=zh (HSn.out rfl);go_wp2_with fail;go_roundw
    case rel => exact ⟨k + 1,hle.out,by go_num,zh ⟨HB1.out,HJ.out⟩⟩
    case measure => simp [intOf]; omega
   | false =>
    have hR:=HNk.out rfl;subst hR;go_wp2_with fail;go_ret;exact ⟨⟨_,rfl,decide_eq_true (by omega)⟩,HB1.out⟩
  ·have:k = l.length:=by omega
   subst this;have hR:=HY.out HS.out.2;subst hR;go_wp2_with fail;go_ret;exact ⟨⟨-1,rfl,by decide⟩,HS.out.1⟩
theorem zqv6 (w:World) (u:Value) (l:List Re) (hu:Reals w u l) (hw:∀ x ∈ l,ReW x) :
  Calls Tryz.prog 70 #[u,.func (.func 71) #[] #[]] w fun e w' => e = .returned (.bool (!allR l)) ∧ Below w.heap.size w w':=by
 have HI:=zh (zqw1 w u l hu hw);obtain ⟨a,cap,rfl,-,hm,-⟩:=hu;generalize allR l = R at *;clear hw;go_enter Tryz.func70,Tryz.ntmps70;go_wp2_with fail;refine HI.out.mono ?_; rintro e w1 ⟨⟨r,rfl,hr⟩,hb⟩;have HB:=zh hb;clear hb HI;go_wp2_with fail;go_ret;exact ⟨by first | rfl | rw [← hr] | (rw [← hr]; rfl),HB.out⟩
def validC (S:Sc) (q:Int) (c:Ce):Bool:=decide (c.key < q) && decide (1 ≤ c.cnt) && decide (c.is.length = S.is.length) && decide (c.ns.length = S.ns.length) && allW c.is && allR c.ns
def rightC (S:Sc) (m:Int) (c:Ce):Bool:=decide (checkL S = 0 ∧ m ≤ fullL S.ds) && validC S (keysL S.ds m S.ds.length) c
set_option maxHeartbeats 8000000 in
theorem zqvn (w:World) (D I M V P Q:Value) (S:Sc) (q:Int) (c:Ce) (h:Sch4 w D I M V S) (h':CeM w P Q c) (hc:CeW c) :
  Calls Tryz.prog 31 #[SchV D I M V,.int .u64 q,CeV c P Q] w fun e w' => e = .returned (.bool (validC S q c)) ∧ Below w.heap.size w w':=by
 have hb1:=zqab w (SchO D I M V);have hb2:=zqab (w.alloc (SchO D I M V)) (CeO c P Q);have HB:=zh (zqaa hb1 hb2);have HX:=zh ((zqa7 w D I M V).below hb2);have hy:=zqcp (w.alloc (SchO D I M V)) c P Q;rw [World.size_alloc] at hy;have HY:=zh hy;have HW:=zh (fun w1 (hb:Below w.heap.size w w1) => zqv7 w1 P c.is (h'.i.below hb) hc.is)
 have HR:=zh (fun w1 (hb:Below w.heap.size w w1) => zqv6 w1 Q c.ns (h'.n.below hb) hc.ns)
 have HV:=zh (show validC S q c = (decide (c.key < q) && decide (1 ≤ c.cnt) && decide (c.is.length = S.is.length) && decide (c.ns.length = S.ns.length) && allW c.is && allR c.ns) from rfl);obtain ⟨⟨a1,c1,rfl⟩,⟨a2,c2,rfl⟩,⟨a3,c3,rfl⟩,a4,c4,rfl⟩:=h.slices;obtain ⟨⟨p,k1,rfl⟩,p2,k2,rfl⟩:=h'.slices;generalize validC S q c = R at *;clear h h' hc hb1 hb2 hy;go_enter Tryz.func31,Tryz.ntmps31;go_upto_region 1 with fail;generalize (w.alloc (SchO (.slice a1 S.ds.length c1) (.slice a2 S.is.length c2) (.slice a3 S.ns.length c3) (.slice a4 S.vs.length c4))).alloc (CeO c (.slice p c.is.length k1) (.slice p2 c.ns.length k2)) = W at *;obtain ⟨x0,x1,x2,x3⟩:=HX.out.reads;obtain ⟨y0,y1,y2,y3⟩:=HY.out.reads
 by_cases h1:c.key < q
 ·have d1:decide (c.key < q) = true:=decide_eq_true h1
  by_cases h2:1 ≤ c.cnt
  ·have d2:decide (1 ≤ c.cnt) = true:=decide_eq_true h2
   by_cases h3:c.is.length = S.is.length
   ·have d3:((c.is.length:Int) == (S.is.length:Int)) = true:=by simp [h3]
    by_cases h4:c.ns.length = S.ns.length
    ·have d4:((c.ns.length:Int) == (S.ns.length:Int)) = true:=by simp [h4]
     have hR:R = (allW c.is && allR c.ns):=HV.out.trans (by rw [d1,d2,decide_eq_true h3,decide_eq_true h4]; simp)
     clear HV h1 h2 h3 h4;generalize allW c.is = A at *;generalize allR c.ns = B at *;go_wp2_with fail;refine (HW.out _ HB.out).mono ?_; rintro e w1 ⟨rfl,hb⟩;have HB1:=zh (zqaa HB.out hb);have y3:=cell_later hb y3;clear hb HW;cases A with
     | false =>
      subst hR;clear y3;go_wp2_with fail;go_ret;exact ⟨rfl,HB1.out⟩
     | true =>
      subst hR;go_wp2_with fail;refine (HR.out _ HB1.out).mono ?_; rintro e w2 ⟨rfl,hb⟩;have HB2:=zh (zqaa HB1.out hb);clear hb HR y3;cases R
      ·go_wp2_with fail;go_ret;exact ⟨rfl,HB2.out⟩
      ·go_wp2_with fail;go_ret;exact ⟨rfl,HB2.out⟩
    ·have d4:((c.ns.length:Int) == (S.ns.length:Int)) = false:=by rw [beq_eq_false_iff_ne]; omega
     have hR:R = false:=HV.out.trans (by rw [decide_eq_false h4]; simp)
     subst hR;clear HV h1 h2 h3 h4 HW HR;go_wp2_with fail;go_ret;exact ⟨rfl,HB.out⟩
   ·have d3:((c.is.length:Int) == (S.is.length:Int)) = false:=by rw [beq_eq_false_iff_ne]; omega
    have hR:R = false:=HV.out.trans (by rw [decide_eq_false h3]; simp)
    subst hR;clear HV h1 h2 h3 HW HR;go_wp2_with fail;go_ret;exact ⟨rfl,HB.out⟩
  ·have d2:decide (1 ≤ c.cnt) = false:=decide_eq_false h2;have hR:R = false:=HV.out.trans (by rw [d2]; simp)
   subst hR;clear HV h1 h2 HW HR;go_wp2_with fail;go_ret;exact ⟨rfl,HB.out⟩
 ·have d1:decide (c.key < q) = false:=decide_eq_false h1;have hR:R = false:=HV.out.trans (by rw [d1]; simp)
  subst hR;clear HV h1 HW HR;go_wp2_with fail;go_ret;exact ⟨rfl,HB.out⟩
end Go.Proofs.YtafmghloohhaeaaGreatDoor
