/- Contracts that the law leans on: Agom. -/
import Derived.Test.YtpgchfihedcdkaaGreatDoorGt02
import Derived.Test.YtpgchfihedcdkaaGreatDoorGt27
import Derived.Test.YtpgchfihedcdkaaGreatDoorGt31
import Derived.Test.YtpgchfihedcdkaaGreatDoorGt35
namespace Go.Proofs.YtpgchfihedcdkaaGreatDoor
set_option maxRecDepth 100000
open Go.RowKit
set_option linter.unusedVariables false
structure LikeR (x y:Re):Prop where
 sum:y.sum = x.sum
 mn:keyI y.mn = keyI x.mn
 mx:keyI y.mx = keyI x.mx
 w1:W64 y.mn
 w2:W64 y.mx
structure LikeC (c d:Ce):Prop where
 key:d.key = c.key
 cnt:d.cnt = c.cnt
 is:d.is = c.is
 len:d.ns.length = c.ns.length
 ns:∀ k,k < c.ns.length → LikeR (rg c.ns k) (rg d.ns k)
def TOwn (w:World) (q:Value) (l:List Int):Prop:=Ints .u8 w q l ∧ Typed 5 w q
theorem TOwn.below {w w':World} {q:Value} {l:List Int} (h:TOwn w q l) (hb:Below w.heap.size w w'):TOwn w' q l:=⟨h.1.below hb,h.2.below hb⟩
theorem TOwn.grown {w w':World} {q:Value} {l:List Int} {g:Nat} {cur:Array Value} {E:TypeId} {fr:Nat × Nat} (h:TOwn w q l) (hp:w.heap[g]? = some (.cells cur E fr)) (hE:E ≠ 5) (hg:w.grownBy w' (some g)):TOwn w' q l:=⟨h.1.grown h.2 hp hE hg,h.2.grown hp hE hg⟩
theorem TOwn.own {w w':World} {q u:Value} {l:List Int} {B E sz n:Nat} {xs:List Value} (h:TOwn w q l) (ho:w.ownsRow B E sz u n xs) (hE:E ≠ 5) (hg:w.grownBy w' u.ownBlock):TOwn w' q l:=by
 rcases ho.2 with ⟨rfl,-⟩ | ⟨g,cap,cur,rfl,-,h3,-⟩
 ·exact h.below ((Below.refl _ _).grown hg (Nat.le_refl _) (fun k hk => by simp [Value.ownBlock] at hk))
 ·exact h.grown h3 hE hg
def RsT (w:World) (B:Nat) (v:Value) (ps:List (Value × Re)):Prop:=w.ownsRow B 74 3 v ps.length (cellsR ps) ∧ ∀ p ∈ ps,TOwn w p.1 p.2.sum
theorem RsT.nil (w:World) (B:Nat):RsT w B (.slice none 0 0) []:=⟨⟨by simp [cellsR],.inl ⟨rfl,rfl⟩⟩,fun p hp => by cases hp⟩
theorem RsT.below {w w':World} {B:Nat} {v:Value} {ps:List (Value × Re)} (h:RsT w B v ps) (hb:Below w.heap.size w w'):RsT w' B v ps:=⟨zqay h.1 hb,fun p hp => (h.2 p hp).below hb⟩
theorem RsT.low {w:World} {B B':Nat} {v:Value} {ps:List (Value × Re)} (h:RsT w B v ps) (hb:B' ≤ B):RsT w B' v ps:=⟨zqax h.1 hb,h.2⟩
theorem RsT.far {w w':World} {B N:Nat} {v:Value} {ps:List (Value × Re)} {cur:Array Value} {E:TypeId} {fr:Nat × Nat} (h:RsT w B v ps) (hp:w.heap[N]? = some (.cells cur E fr)) (hE:E ≠ 5) (hg:w.grownBy w' (some N)) (hN:N < B):RsT w' B v ps:=⟨zqda h.1 hg hN,fun p hq => (h.2 p hq).grown hp hE hg⟩
theorem RsT.apart {w w':World} {B B' E sz n:Nat} {v u:Value} {ps:List (Value × Re)} {xs:List Value} (h:RsT w B v ps) (ho:w.ownsRow B' E sz u n xs) (h1:74 ≠ E) (h2:E ≠ 5) (hg:w.grownBy w' u.ownBlock):RsT w' B v ps :=
 ⟨zqbb h.1 ho h1 hg,fun p hp => (h.2 p hp).own ho h2 hg⟩
theorem TOwn.setbox {w:World} {C j:Nat} {T:TypeId} {cs:Array Value} {u q:Value} {l:List Int} (h:TOwn w q l) (hC:w.heap[C]? = some (.cells cs T (0,0))) (hT:T ≠ 5):TOwn (w.setCell ⟨C,j,none⟩ u) q l:=h.grown hC hT (zqad w C j u)
theorem RsT.setbox {w:World} {C j B:Nat} {T:TypeId} {cs:Array Value} {u v:Value} {ps:List (Value × Re)} (h:RsT w B v ps) (hC:w.heap[C]? = some (.cells cs T (0,0))) (h1:T ≠ 74) (h2:T ≠ 5):RsT (w.setCell ⟨C,j,none⟩ u) B v ps :=
 ⟨zqan h.1 hC h1,fun p hp => (h.2 p hp).setbox hC h2⟩
theorem RsT.push {w w':World} {B:Nat} {v v' q:Value} {x:Re} {ps:List (Value × Re)} (h:RsT w B v ps) (hq:TOwn w q x.sum)
  (hown:w'.ownsRow B 74 3 v' (ps.length + 1) (cellsR ps ++ rowR q x)) (hg:w.grownBy w' v.ownBlock):RsT w' B v' (ps ++ [(q,x)]):=by
 refine ⟨by rw [zqfy,List.length_append]; exact hown,fun p hp => ?_⟩
 rcases List.mem_append.1 hp with hp | hp
 ·exact (h.2 p hp).own h.1 (by decide) hg
 ·obtain rfl:p = (q,x):=by simpa using hp
  exact hq.own h.1 (by decide) hg
theorem RsT.reals {w:World} {B:Nat} {v:Value} {ps:List (Value × Re)} (h:RsT w B v ps):Reals w v (ps.map Prod.snd):=by
 obtain ⟨ho,hq⟩:=h;have ho2:=ho;rcases ho.2 with ⟨rfl,h0⟩ | ⟨g,cap,cur,rfl,h2,h3,h4,h5,-⟩
 ·obtain rfl:ps = []:=List.length_eq_zero_iff.1 h0;exact ⟨none,0,rfl,by simp,by simp,.inl rfl⟩
 ·refine ⟨some ⟨g,0,none⟩,cap,by simp,by simpa using h4,by unfold maxLen at h5; simp; omega,.inr ⟨g,0,rfl,(Array.getElem?_eq_some_iff.1 h3).1,fun i hi => ?_⟩⟩
  have hi:i < ps.length:=by simpa using hi
  have hc:=fun j (hj:j < 3) => (World.ownsRow.cellAt ho2 (i * 3 + j) (by omega)).trans (zqgr ps i j hi hj)
  have hx:rg (ps.map Prod.snd) i = (ps[i]).2:=by rw [zqa3 (by simpa using hi)]; simp
  refine ⟨(ps[i]).1,?_⟩;rw [hx,Nat.zero_add];exact ⟨by simpa using hc 0 (by decide),by simpa using hc 1 (by decide),by simpa using hc 2 (by decide),(hq _ (List.getElem_mem hi)).1⟩
structure Rq4 (w wr:World) (N:Nat) (v:Value) (s:Nat × Nat) (D I M V:Value) (K:Nat) (key cnt:Int) (iv:Value) (ps:List (Value × Wh)) (nv:Value) (qs:List (Value × Re)):Prop where
 i:R3 wr N v s.1 s.2
 x:Box wr w.heap.size D I M V
 r:wr.heap[w.heap.size + 1]? = some (.cells (boxV 0 0 (.slice none 0 0) (.slice none 0 0)) 32 (0,0))
 k:wr.heap[K]? = some (.cells (boxV key cnt iv nv) 32 (0,0))
 is:WsOwn wr w.heap.size iv ps
 ns:RsT wr w.heap.size nv qs
 g:w.grownBy wr (some N)
 n:N < w.heap.size
 kl:w.heap.size + 1 < K
theorem Rq4.sz {w wr:World} {N K:Nat} {v:Value} {s:Nat × Nat} {D I M V:Value} {key cnt:Int} {iv nv:Value} {ps:List (Value × Wh)} {qs:List (Value × Re)} (h:Rq4 w wr N v s D I M V K key cnt iv ps nv qs):K < wr.heap.size:=(Array.getElem?_eq_some_iff.1 h.k).1
theorem Rq4.call {w wr:World} {N K:Nat} {v:Value} {s:Nat × Nat} {D I M V:Value} {key cnt:Int} {iv nv:Value} {ps:List (Value × Wh)} {qs:List (Value × Re)} (h:Rq4 w wr N v s D I M V K key cnt iv ps nv qs) {w1:World} {t:Nat × Nat} (hi:R3 w1 N v t.1 t.2) (hg:wr.grownBy w1 (some N)):Rq4 w w1 N v t D I M V K key cnt iv ps nv qs :=
 have hn:=h.n;have hl:=h.kl
 ⟨hi,zqah h.x hg (by omega),zqah h.r hg (by omega),zqah h.k hg (by omega),h.is.far hg hn,h.ns.far h.i (by decide) hg hn,zqag h.g hg,hn,hl⟩
theorem Rq4.below {w wr:World} {N K:Nat} {v:Value} {s:Nat × Nat} {D I M V:Value} {key cnt:Int} {iv nv:Value} {ps:List (Value × Wh)} {qs:List (Value × Re)} (h:Rq4 w wr N v s D I M V K key cnt iv ps nv qs) {w1:World} (hb:Below wr.heap.size wr w1):Rq4 w w1 N v s D I M V K key cnt iv ps nv qs:=h.call (h.i.below hb) (zqaf hb _)
theorem Rq4.set {w wr:World} {N K:Nat} {v:Value} {s:Nat × Nat} {D I M V:Value} {key cnt:Int} {iv nv:Value} {ps:List (Value × Wh)} {qs:List (Value × Re)} (h:Rq4 w wr N v s D I M V K key cnt iv ps nv qs) {j:Nat} {u:Value} {key' cnt':Int} (hk:(wr.setCell ⟨K,j,none⟩ u).heap[K]? = some (.cells (boxV key' cnt' iv nv) 32 (0,0))):Rq4 w (wr.setCell ⟨K,j,none⟩ u) N v s D I M V K key' cnt' iv ps nv qs :=
 have hn:=h.n;have hl:=h.kl;have hg:=zqad wr K j u
 ⟨h.i.grown hg (by omega),zqah h.x hg (by omega),zqah h.r hg (by omega),hk,h.is.setbox h.k (by decide) (by decide),h.ns.setbox h.k (by decide) (by decide),zqao h.g hg (fun g e => by have:=Option.some.inj e; omega),hn,hl⟩
theorem Rq4.rowI {w wr:World} {N K:Nat} {v:Value} {s:Nat × Nat} {D I M V:Value} {key cnt:Int} {iv nv:Value} {ps:List (Value × Wh)} {qs:List (Value × Re)} (h:Rq4 w wr N v s D I M V K key cnt iv ps nv qs) {w7:World} {iv':Value} {ps':List (Value × Wh)} (ho:WsOwn w7 w.heap.size iv' ps') (hg:wr.grownBy w7 iv.ownBlock) :
  w7.heap[K]? = some (.cells (boxV key cnt iv nv) 32 (0,0)) ∧ Rq4 w (w7.setCell ⟨K,2,none⟩ iv') N v s D I M V K key cnt iv' ps' nv qs:=by
 have hn:=h.n;have hl:=h.kl;have h1:=zqaj h.k h.is.1 (by decide) hg
 have h2:=zqaj h.r h.is.1 (by decide) hg
 have h4:=zqaj h.x h.is.1 (by decide) hg
 have h3:=h.i.own h.is.1 h.n hg;have hs:=zqad w7 K 2 iv';refine ⟨h1,h3.grown hs (by omega),zqah h4 hs (by omega),zqah h2 hs (by omega),zqb9 h1,ho.setbox h1 (by decide) (by decide),(h.ns.apart h.is.1 (by decide) (by decide) hg).setbox h1 (by decide) (by decide),zqao (zqao h.g hg (fun g e => (h.is.1.lt g e).1)) hs (fun g e => by have:=Option.some.inj e; omega),hn,hl⟩
theorem Rq4.rowN {w wr:World} {N K:Nat} {v:Value} {s:Nat × Nat} {D I M V:Value} {key cnt:Int} {iv nv:Value} {ps:List (Value × Wh)} {qs:List (Value × Re)} (h:Rq4 w wr N v s D I M V K key cnt iv ps nv qs) {w7:World} {nv':Value} {qs':List (Value × Re)} (ho:RsT w7 w.heap.size nv' qs') (hg:wr.grownBy w7 nv.ownBlock) :
  w7.heap[K]? = some (.cells (boxV key cnt iv nv) 32 (0,0)) ∧ Rq4 w (w7.setCell ⟨K,3,none⟩ nv') N v s D I M V K key cnt iv ps nv' qs':=by
 have hn:=h.n;have hl:=h.kl;have h1:=zqaj h.k h.ns.1 (by decide) hg
 have h2:=zqaj h.r h.ns.1 (by decide) hg
 have h4:=zqaj h.x h.ns.1 (by decide) hg
 have h3:=h.i.own h.ns.1 h.n hg;have hs:=zqad w7 K 3 nv';refine ⟨h1,h3.grown hs (by omega),zqah h4 hs (by omega),zqah h2 hs (by omega),zqep h1,(h.is.apart h.ns.1 (by decide) (by decide) hg).setbox h1 (by decide) (by decide),ho.setbox h1 (by decide) (by decide),zqao (zqao h.g hg (fun g e => (h.ns.1.lt g e).1)) hs (fun g e => by have:=Option.some.inj e; omega),hn,hl⟩
theorem zqwx {w w1:World} {N:Nat} {v:Value} {s:Nat × Nat} {D I M V:Value} {key:Int} (hi:R3 w1 N v s.1 s.2) (hx:Box w1 w.heap.size D I M V) (hr:w1.heap[w.heap.size + 1]? = some (.cells (boxV 0 0 (.slice none 0 0) (.slice none 0 0)) 32 (0,0))) (hg:w.grownBy w1 (some N)) (hn:N < w.heap.size) :
  Rq4 w (w1.alloc (.cells (boxV key 0 (.slice none 0 0) (.slice none 0 0)) 32)) N v s D I M V w1.heap.size key 0 (.slice none 0 0) [] (.slice none 0 0) [] :=
 have hb:=zqab w1 (.cells (boxV key 0 (.slice none 0 0) (.slice none 0 0)) 32)
 ⟨hi.below hb,hx.below hb,(hb.block _ (Array.getElem?_eq_some_iff.1 hr).1).trans hr,heap_alloc_new w1 _,WsOwn.nil _ _,RsT.nil _ _,zqag hg (zqaf hb _),hn,(Array.getElem?_eq_some_iff.1 hr).1⟩
theorem zq2b {w wr:World} {N K:Nat} {v:Value} {s:Nat × Nat} {D I M V:Value} {key cnt:Int} {iv nv:Value} {ps:List (Value × Wh)} {qs:List (Value × Re)} (h:Rq4 w wr N v s D I M V K key cnt iv ps nv qs) :
  let W:=(((wr.setCell ⟨w.heap.size + 1,0,none⟩ (.int .u64 key)).setCell ⟨w.heap.size + 1,1,none⟩ (.int .i64 cnt)).setCell ⟨w.heap.size + 1,2,none⟩ iv).setCell ⟨w.heap.size + 1,3,none⟩ nv
  (R3 W N v s.1 s.2 ∧ WsOwn W w.heap.size iv ps ∧ RsT W w.heap.size nv qs ∧ w.grownBy W (some N)) ∧ W.heap[w.heap.size + 1]? = some (.cells (boxV key cnt iv nv) 32 (0,0)):=by
 have st:∀ (j:Nat) (u:Value) (x:World) (cs:Array Value),x.heap[w.heap.size + 1]? = some (.cells cs 32 (0,0)) → (R3 x N v s.1 s.2 ∧ WsOwn x w.heap.size iv ps ∧ RsT x w.heap.size nv qs ∧ w.grownBy x (some N)) → R3 (x.setCell ⟨w.heap.size + 1,j,none⟩ u) N v s.1 s.2 ∧ WsOwn (x.setCell ⟨w.heap.size + 1,j,none⟩ u) w.heap.size iv ps ∧ RsT (x.setCell ⟨w.heap.size + 1,j,none⟩ u) w.heap.size nv qs ∧ w.grownBy (x.setCell ⟨w.heap.size + 1,j,none⟩ u) (some N) :=
  fun j u x cs hx ⟨k1,k2,k3,k4⟩ => ⟨k1.grown (zqad _ _ _ _) (by have:=h.n; omega),k2.setbox hx (by decide) (by decide),k3.setbox hx (by decide) (by decide),zqao k4 (zqad x (w.heap.size + 1) j u) (fun g e => by have:=Option.some.inj e; omega)⟩
 have r1:=zqea (x:=key) h.r;have r2:=zqc5 (x:=cnt) r1;have r3:=zqb9 (u:=iv) r2;have r4:=zqep (u:=nv) r3;exact ⟨st 3 _ _ _ r3 (st 2 _ _ _ r2 (st 1 _ _ _ r1 (st 0 _ _ _ h.r ⟨h.i,h.is,h.ns,h.g⟩))),r4⟩
theorem zqv3 {w w':World} {B E sz n:Nat} {v u:Value} {xs:List Value} (h:w.ownsRow B E sz v n xs) (hg:w.grownBy w' u.ownBlock) (hne:∀ g,v.ownBlock = some g → u.ownBlock ≠ some g):w'.ownsRow B E sz v n xs:=by
 refine h.kept hg ?_;cases hv:v.ownBlock with
 | none => exact .inl rfl
 | some g => right; intro e; exact hne g hv e.symm
structure Ry4 (w wr:World) (N:Nat) (v:Value) (s:Nat × Nat) (D I M V:Value) (K:Nat) (key cnt:Int) (iv:Value) (ps:List (Value × Wh)) (nv:Value) (qs:List (Value × Re)) (X:Nat) (q:Value) (l:List Int) (a0 a1 a3 a4:Int):Prop where
 c:Rq4 w wr N v s D I M V K key cnt iv ps nv qs
 x:wr.heap[X]? = some (.cells (boxW a0 a1 q a3 a4) 71 (0,0))
 o:UOwn wr X q l
 lt:K < X
 ne:∀ g,iv.ownBlock = some g → g < X
 no:∀ p ∈ ps,∀ g,p.1.ownBlock = some g → g < X
theorem zqwz {w wr:World} {N K:Nat} {v:Value} {s:Nat × Nat} {D I M V:Value} {key cnt:Int} {iv nv:Value} {ps:List (Value × Wh)} {qs:List (Value × Re)} (h:Rq4 w wr N v s D I M V K key cnt iv ps nv qs) {a0:Int}:Ry4 w (wr.alloc (.cells (boxW a0 0 (.slice none 0 0) 0 0) 71)) N v s D I M V K key cnt iv ps nv qs wr.heap.size (.slice none 0 0) [] a0 0 0 0 :=
 ⟨h.below (zqab _ _),heap_alloc_new wr _,uown0 _ _,h.sz,fun g e => (h.is.1.lt g e).2,fun p hp g e => ((h.is.2 p hp).lt g e).2⟩
theorem Ry4.call {w wr:World} {N K:Nat} {v:Value} {s:Nat × Nat} {D I M V:Value} {key cnt:Int} {iv nv:Value} {ps:List (Value × Wh)} {qs:List (Value × Re)} {X:Nat} {q:Value} {l:List Int} {a0 a1 a3 a4:Int} (h:Ry4 w wr N v s D I M V K key cnt iv ps nv qs X q l a0 a1 a3 a4) {w1:World} {t:Nat × Nat} (hi:R3 w1 N v t.1 t.2) (hg:wr.grownBy w1 (some N)):Ry4 w w1 N v t D I M V K key cnt iv ps nv qs X q l a0 a1 a3 a4 :=
 have hn:=h.c.n;have hl:=h.lt;have hl2:=h.c.kl
 ⟨h.c.call hi hg,zqah h.x hg (by omega),zqda h.o hg (by omega),hl,h.ne,h.no⟩
theorem Ry4.below {w wr:World} {N K:Nat} {v:Value} {s:Nat × Nat} {D I M V:Value} {key cnt:Int} {iv nv:Value} {ps:List (Value × Wh)} {qs:List (Value × Re)} {X:Nat} {q:Value} {l:List Int} {a0 a1 a3 a4:Int} (h:Ry4 w wr N v s D I M V K key cnt iv ps nv qs X q l a0 a1 a3 a4) {w1:World} (hb:Below wr.heap.size wr w1):Ry4 w w1 N v s D I M V K key cnt iv ps nv qs X q l a0 a1 a3 a4:=h.call (h.c.i.below hb) (zqaf hb _)
theorem Ry4.put {w wr:World} {N K:Nat} {v:Value} {s:Nat × Nat} {D I M V:Value} {key cnt:Int} {iv nv:Value} {ps:List (Value × Wh)} {qs:List (Value × Re)} {X:Nat} {q:Value} {l:List Int} {a0 a1 a3 a4:Int} (h:Ry4 w wr N v s D I M V K key cnt iv ps nv qs X q l a0 a1 a3 a4) {j:Nat} {u q':Value} {l':List Int} {w7:World} {b0 b1 b3 b4:Int} (hg7:wr.grownBy w7 q.ownBlock) (ho:UOwn w7 X q' l')
  (hk:(w7.setCell ⟨X,j,none⟩ u).heap[X]? = some (.cells (boxW b0 b1 q' b3 b4) 71 (0,0))) :
  Ry4 w (w7.setCell ⟨X,j,none⟩ u) N v s D I M V K key cnt iv ps nv qs X q' l' b0 b1 b3 b4:=by
 have hn:=h.c.n;have hl:=h.lt;have hl2:=h.c.kl;have h1:=zqaj h.x h.o (by decide) hg7
 have hg:=zqad w7 X j u;have k3:=h.c.i.own h.o (by omega) hg7
 have k4:=zqaj h.c.x h.o (by decide) hg7
 have k5:=zqaj h.c.r h.o (by decide) hg7
 have k6:=zqaj h.c.k h.o (by decide) hg7
 have k7:=zqbb h.c.is.1 h.o (by decide) hg7
 have k8:=fun p hp => zqv3 (h.c.is.2 p hp) hg7 (fun g e e2 => by have e3:=h.no p hp g e; have e4:=(h.o.lt g e2).1; omega)
 have k9:=h.c.ns.apart h.o (by decide) (by decide) hg7
 exact ⟨⟨k3.grown hg (by omega),zqah k4 hg (by omega),zqah k5 hg (by omega),zqah k6 hg (by omega),⟨ownsRow_setCell_other k7 (fun e => absurd (h.ne X e) (Nat.lt_irrefl X)) u,fun p hp => zqan (k8 p hp) h1 (by decide)⟩,k9.setbox h1 (by decide) (by decide),zqao (zqao h.c.g hg7 (fun g e => by have:=(h.o.lt g e).1; omega)) hg (fun g e => by have:=Option.some.inj e; omega),hn,hl2⟩,hk,zqan ho h1 (by decide),hl,h.ne,h.no⟩
theorem Ry4.set {w wr:World} {N K:Nat} {v:Value} {s:Nat × Nat} {D I M V:Value} {key cnt:Int} {iv nv:Value} {ps:List (Value × Wh)} {qs:List (Value × Re)} {X:Nat} {q:Value} {l:List Int} {a0 a1 a3 a4:Int} (h:Ry4 w wr N v s D I M V K key cnt iv ps nv qs X q l a0 a1 a3 a4) {j:Nat} {u:Value} {b0 b1 b3 b4:Int} (hk:(wr.setCell ⟨X,j,none⟩ u).heap[X]? = some (.cells (boxW b0 b1 q b3 b4) 71 (0,0))):Ry4 w (wr.setCell ⟨X,j,none⟩ u) N v s D I M V K key cnt iv ps nv qs X q l b0 b1 b3 b4 :=
 h.put (zqaf (Below.refl _ _) _) h.o hk
structure Rz4 (w wr:World) (N:Nat) (v:Value) (s:Nat × Nat) (D I M V:Value) (K:Nat) (key cnt:Int) (iv:Value) (ps:List (Value × Wh)) (nv:Value) (qs:List (Value × Re)) (X:Nat) (q:Value) (l:List Int) (x1 x2:Nat):Prop where
 c:Rq4 w wr N v s D I M V K key cnt iv ps nv qs
 x:wr.heap[X]? = some (.cells (boxR q x1 x2) 74 (0,0))
 o:TOwn wr q l
 lt:K < X
 ne:∀ g,nv.ownBlock = some g → g < X
theorem zqw0 {w wr:World} {N K:Nat} {v:Value} {s:Nat × Nat} {D I M V:Value} {key cnt:Int} {iv nv:Value} {ps:List (Value × Wh)} {qs:List (Value × Re)} (h:Rq4 w wr N v s D I M V K key cnt iv ps nv qs) {q:Value} {l:List Int} (hq:TOwn wr q l):Rz4 w (wr.alloc (.cells (boxR q 0 0) 74)) N v s D I M V K key cnt iv ps nv qs wr.heap.size q l 0 0 :=
 ⟨h.below (zqab _ _),heap_alloc_new wr _,hq.below (zqab _ _),h.sz,fun g e => (h.ns.1.lt g e).2⟩
theorem Rz4.call {w wr:World} {N K:Nat} {v:Value} {s:Nat × Nat} {D I M V:Value} {key cnt:Int} {iv nv:Value} {ps:List (Value × Wh)} {qs:List (Value × Re)} {X:Nat} {q:Value} {l:List Int} {x1 x2:Nat} (h:Rz4 w wr N v s D I M V K key cnt iv ps nv qs X q l x1 x2) {w1:World} {t:Nat × Nat} (hi:R3 w1 N v t.1 t.2) (hg:wr.grownBy w1 (some N)):Rz4 w w1 N v t D I M V K key cnt iv ps nv qs X q l x1 x2 :=
 have hn:=h.c.n;have hl:=h.lt;have hl2:=h.c.kl
 ⟨h.c.call hi hg,zqah h.x hg (by omega),h.o.grown h.c.i (by decide) hg,hl,h.ne⟩
theorem Rz4.set {w wr:World} {N K:Nat} {v:Value} {s:Nat × Nat} {D I M V:Value} {key cnt:Int} {iv nv:Value} {ps:List (Value × Wh)} {qs:List (Value × Re)} {X:Nat} {q:Value} {l:List Int} {x1 x2:Nat} (h:Rz4 w wr N v s D I M V K key cnt iv ps nv qs X q l x1 x2) {j:Nat} {u:Value} {y1 y2:Nat} (hx:(wr.setCell ⟨X,j,none⟩ u).heap[X]? = some (.cells (boxR q y1 y2) 74 (0,0))):Rz4 w (wr.setCell ⟨X,j,none⟩ u) N v s D I M V K key cnt iv ps nv qs X q l y1 y2:=by
 have hn:=h.c.n;have hl:=h.lt;have hl2:=h.c.kl;have hg:=zqad wr X j u;exact ⟨⟨h.c.i.grown hg (by omega),zqah h.c.x hg (by omega),zqah h.c.r hg (by omega),zqah h.c.k hg (by omega),h.c.is.setbox h.x (by decide) (by decide),⟨ownsRow_setCell_other h.c.ns.1 (fun e => absurd (h.ne X e) (Nat.lt_irrefl X)) u,fun p hp => (h.c.ns.2 p hp).setbox h.x (by decide)⟩,zqao h.c.g hg (fun g e => by have:=Option.some.inj e; omega),hn,hl2⟩,hx,h.o.setbox h.x (by decide),hl,h.ne⟩
theorem zqtv {most:Int} {b:List Int} (h:(bN most b).2.2 ≠ 0):(bN most b).2.1 = 0:=by
 unfold bN at h ⊢
 split
 ·rfl
 ·rename_i h1;rw [if_neg h1] at h
  split
  ·rfl
  ·rename_i h2;rw [if_neg h2] at h
   split
   ·rfl
   ·rename_i h3;rw [if_neg h3] at h;exact absurd rfl h
theorem zq1l (u i:Int) (t:ByteArray) (n e:Int) (w:World):(Instr.field 186 (gotV u i t n e) 2).run Tryz.prog w = .ok (.string t) w:=by kernel_rfl
theorem zqxd (w:World) {l:List Int} (h:Bt l):TOwn (Lib.bytesWorld w 5 (strB l)) (.slice (some ⟨w.heap.size,0,none⟩) (strB l).size (grownCap w (strB l).size 0 5)) l :=
 ⟨by have:=zqu9 w (strB l); rw [zqzp h] at this; exact this,fun b off n cap e => by
  injection e with e1 e2 e3;have e4:=Option.some.inj e1;injection e4 with e5 e6 e7;subst e5;exact ⟨_,_,Lib.bytesWorld_at_new w 5 (strB l)⟩⟩
theorem zqri (w:World) (N:Nat) (v:Value) (b:List Int) (s:Nat × Nat) (u i m:Int) (f:Nat) (t:ByteArray) (h:R3 w N v s.1 s.2) (hv:Ints .u8 w v b) (hb:Bt b) (hl:b.length ≤ 20000) (hs:OkSt b s) (hm:m ≤ 9223372036854775807) :
  Calls Tryz.prog 126 #[.pointer (some ⟨N,0,none⟩),askV 4 u i f t m] w fun r w' => (∃ n e:Nat,r = .returned (gotV 0 0 (strB (stB b m s).1) n e)) ∧ R3 w' N v (stB b m s).2.1 (stB b m s).2.2 ∧ w.grownBy w' (some N):=by
 obtain ⟨p,e⟩:=s;have hp:p ≤ b.length:=hs.1;simp only at h;unfold stB
 by_cases he:e = 0
 ·subst he;rw [if_pos rfl];have hf:=zqnu (hb.drop p) m;have hle:(bN m (b.drop p)).2.1 ≤ 20000:=by
   by_cases h0:(bN m (b.drop p)).2.2 = 0
   ·have:=hf.1 h0; rw [List.length_drop] at this; omega
   ·have:=zqtv h0; omega
  refine (zqim w N v b p 4 u i m f t 0 0 (strB (bN m (b.drop p)).1) (bN m (b.drop p)).2.1 (bN m (b.drop p)).2.2 h hv hp hl hle
   (fun w1 v2 hb1 hi => zqz8 w1 v2 (b.drop p) 4 u i m f t (by omega) hm hi (hb.drop p) (by rw [List.length_drop]; omega))).mono ?_
  rintro r w1 ⟨rfl,hr,hg⟩;refine ⟨⟨_,_,rfl⟩,?_,hg⟩
  by_cases h0:(bN m (b.drop p)).2.2 = 0
  ·rw [h0] at hr ⊢; simpa using hr
  ·have h1:=zqtv h0;rw [h1] at hr;simpa [h0] using hr
 ·rw [if_neg he];refine (zqj1 w N v p e 4 u i m f t h he).mono ?_;rintro r w1 ⟨rfl,hb1⟩;exact ⟨⟨0,0,rfl⟩,h.below hb1,zqaf hb1 _⟩
theorem zq1w (b:List Int) (s:Nat × Nat) (hb:Bt b) (hl:b.length ≤ 20000) (hs:OkSt b s):∃ (LI:Nat → List Wh × Nat × Nat) (U1 U2 U5 U6:Nat → Int) (T1 T2 T5:Nat → Nat × Nat) (M:Nat → Nat) (LK:Nat → Nat → List Int × Nat × Nat) (EL:Nat → Nat → Int),
  LI 0 = ([],s) ∧ (∀ k,(LI (k + 1)).1 = (LI k).1 ++ [⟨U1 k,U2 k,(LK k (M k)).1,U5 k,U6 k⟩] ∧ (LI k).1.length = k ∧ M k ≤ 7 ∧ (LK k 0).1 = []) ∧
  (∀ k j,(LK k (j + 1)).1 = (LK k j).1 ++ [EL k j] ∧ 0 ≤ EL k j ∧ EL k j ≤ 4294967295 ∧ (LK k j).1.length = j) ∧
  (∀ N v k w1,R3 w1 N v (LI k).2.1 (LI k).2.2 → Ints .u8 w1 v b → Calls Tryz.prog 125 #[.pointer (some ⟨N,0,none⟩)] w1 fun r w' => r = .returned (.int .i64 (U1 k)) ∧ R3 w' N v (T1 k).1 (T1 k).2 ∧ w1.grownBy w' (some N)) ∧
  (∀ N v k w1,R3 w1 N v (T1 k).1 (T1 k).2 → Ints .u8 w1 v b → Calls Tryz.prog 125 #[.pointer (some ⟨N,0,none⟩)] w1 fun r w' => r = .returned (.int .i64 (U2 k)) ∧ R3 w' N v (T2 k).1 (T2 k).2 ∧ w1.grownBy w' (some N)) ∧
  (∀ N v k w1,R3 w1 N v (T2 k).1 (T2 k).2 → Ints .u8 w1 v b → Calls Tryz.prog 124 #[.pointer (some ⟨N,0,none⟩),.int .u64 7] w1 fun r w' => r = .returned (.int .u64 (M k:Nat)) ∧ R3 w' N v (LK k 0).2.1 (LK k 0).2.2 ∧ w1.grownBy w' (some N)) ∧
  (∀ N v k j w1,R3 w1 N v (LK k j).2.1 (LK k j).2.2 → Ints .u8 w1 v b → Calls Tryz.prog 124 #[.pointer (some ⟨N,0,none⟩),.int .u64 4294967295] w1 fun r w' => r = .returned (.int .u64 (EL k j)) ∧ R3 w' N v (LK k (j + 1)).2.1 (LK k (j + 1)).2.2 ∧ w1.grownBy w' (some N)) ∧
  (∀ N v k w1,R3 w1 N v (LK k (M k)).2.1 (LK k (M k)).2.2 → Ints .u8 w1 v b → Calls Tryz.prog 125 #[.pointer (some ⟨N,0,none⟩)] w1 fun r w' => r = .returned (.int .i64 (U5 k)) ∧ R3 w' N v (T5 k).1 (T5 k).2 ∧ w1.grownBy w' (some N)) ∧
  (∀ N v k w1,R3 w1 N v (T5 k).1 (T5 k).2 → Ints .u8 w1 v b → Calls Tryz.prog 125 #[.pointer (some ⟨N,0,none⟩)] w1 fun r w' => r = .returned (.int .i64 (U6 k)) ∧ R3 w' N v (LI (k + 1)).2.1 (LI (k + 1)).2.2 ∧ w1.grownBy w' (some N)) ∧
  ∀ n,listK (fun _ s => rdWh b s) s n = LI n:=by
 have hK:=fun k => zqbc (rd:=fun _ s => rdWh b s) (P:=OkSt b) (fun _ _ h => zqgf hb h) hs k
 have o1:=fun k => zqb3 (hK k).1
 have o2:=fun k => zqb3 (o1 k)
 have o3:=fun k => zqe5 hb 7 (o2 k)
 have o4:=fun k j => zqge hb j (o3 k)
 have o5:=fun k => zqb3 (o4 k (rdW3 b (listK (fun _ s => rdWh b s) s k).2).1.toNat).1
 have hv:=fun k => zqcw hb (most:=7) (by decide) (rdW2 b (listK (fun _ s => rdWh b s) s k).2).2
 refine ⟨fun k => listK (fun _ s => rdWh b s) s k,fun k => (rdW1 b (listK (fun _ s => rdWh b s) s k).2).1,fun k => (rdW2 b (listK (fun _ s => rdWh b s) s k).2).1,fun k => (rdW5 b (listK (fun _ s => rdWh b s) s k).2).1,fun k => (rdW6 b (listK (fun _ s => rdWh b s) s k).2).1,
  fun k => (rdW1 b (listK (fun _ s => rdWh b s) s k).2).2,fun k => (rdW2 b (listK (fun _ s => rdWh b s) s k).2).2,fun k => (rdW5 b (listK (fun _ s => rdWh b s) s k).2).2,fun k => (rdW3 b (listK (fun _ s => rdWh b s) s k).2).1.toNat,
  fun k j => rdSq b j (rdW3 b (listK (fun _ s => rdWh b s) s k).2).2,fun k j => (stU b 4294967295 (rdSq b j (rdW3 b (listK (fun _ s => rdWh b s) s k).2).2).2).1,
  rfl,fun k => ⟨rfl,(hK k).2,?_,rfl⟩,fun k j => ⟨rfl,(zqcw hb (by decide) _).1,(zqcw hb (by decide) _).2,(o4 k j).2⟩,
  fun N v k w1 h hv => zqdm w1 N v b _ h hv hb hl (hK k).1,fun N v k w1 h hv => zqdm w1 N v b _ h hv hb hl (o1 k),fun N v k w1 h hi => ?_,
  fun N v k j w1 h hv => zqf1 w1 N v b _ 4294967295 h hv hb hl (o4 k j).1,fun N v k w1 h hv => zqdm w1 N v b _ h hv hb hl (o4 k _).1,fun N v k w1 h hv => zqdm w1 N v b _ h hv hb hl (o5 k),fun n => rfl⟩
 ·have:=hv k;show (rdW3 b (listK (fun _ s => rdWh b s) s k).2).1.toNat ≤ 7
  unfold rdW3;omega
 ·have e:(((rdW3 b (listK (fun _ s => rdWh b s) s k).2).1.toNat:Nat):Int) = (rdW3 b (listK (fun _ s => rdWh b s) s k).2).1:=by
   have:=hv k;unfold rdW3;omega
  simp only [e];exact zqf1 w1 N v b _ 7 h hi hb hl (o2 k)
theorem zq1x (b:List Int) (s:Nat × Nat) (hb:Bt b) (hl:b.length ≤ 20000) (hs:OkSt b s):∃ (LN:Nat → List Re × Nat × Nat) (SL:Nat → List Int) (F2 F3:Nat → Nat) (T1 T2:Nat → Nat × Nat),
  LN 0 = ([],s) ∧ (∀ k,(LN (k + 1)).1 = (LN k).1 ++ [⟨SL k,F2 k,F3 k⟩] ∧ (LN k).1.length = k ∧ Bt (SL k)) ∧
  (∀ N v k w1,R3 w1 N v (LN k).2.1 (LN k).2.2 → Ints .u8 w1 v b → Calls Tryz.prog 126 #[.pointer (some ⟨N,0,none⟩),askV 4 0 0 0 ⟨#[]⟩ 283] w1 fun r w' => (∃ n e:Nat,r = .returned (gotV 0 0 (strB (SL k)) n e)) ∧ R3 w' N v (T1 k).1 (T1 k).2 ∧ w1.grownBy w' (some N)) ∧
  (∀ N v k w1,R3 w1 N v (T1 k).1 (T1 k).2 → Ints .u8 w1 v b → Calls Tryz.prog 127 #[.pointer (some ⟨N,0,none⟩)] w1 fun r w' => (∃ x:Nat,r = .returned (.float .f64 x) ∧ W64 x ∧ keyI x = keyI (F2 k)) ∧ R3 w' N v (T2 k).1 (T2 k).2 ∧ w1.grownBy w' (some N)) ∧
  (∀ N v k w1,R3 w1 N v (T2 k).1 (T2 k).2 → Ints .u8 w1 v b → Calls Tryz.prog 127 #[.pointer (some ⟨N,0,none⟩)] w1 fun r w' => (∃ x:Nat,r = .returned (.float .f64 x) ∧ W64 x ∧ keyI x = keyI (F3 k)) ∧ R3 w' N v (LN (k + 1)).2.1 (LN (k + 1)).2.2 ∧ w1.grownBy w' (some N)) ∧
  ∀ n,listK (fun _ s => rdRe b s) s n = LN n :=
 have hK:=fun k => zqbc (rd:=fun _ s => rdRe b s) (P:=OkSt b) (fun _ _ h => zqlp hb h) hs k
 have o1:=fun k => zqo9 hb 283 (hK k).1
 have o2:=fun k => zqk0 (b:=b) (o1 k)
 ⟨fun k => listK (fun _ s => rdRe b s) s k,fun k => (rdR1 b (listK (fun _ s => rdRe b s) s k).2).1,fun k => (rdR2 b (listK (fun _ s => rdRe b s) s k).2).1,fun k => (rdR3 b (listK (fun _ s => rdRe b s) s k).2).1,fun k => (rdR1 b (listK (fun _ s => rdRe b s) s k).2).2,fun k => (rdR2 b (listK (fun _ s => rdRe b s) s k).2).2,
  rfl,fun k => ⟨rfl,(hK k).2,(zqls hb (by decide) _).1⟩,fun N v k w1 h hv => zqri w1 N v b _ 0 0 283 0 ⟨#[]⟩ h hv hb hl (hK k).1 (by decide),fun N v k w1 h hv => zqia w1 N v b _ h hv hb hl (o1 k),fun N v k w1 h hv => zqia w1 N v b _ h hv hb hl (o2 k),fun n => rfl⟩
theorem meas14 {j n:Nat} (h:j < n) (hi:wrap64 ((j:Int) + 1) = (j:Int) + 1):n - (intOf (.int .i64 (wrap64 ((j:Int) + 1)))).toNat < n - (intOf (.int .i64 (j:Int))).toNat:=by
 rw [hi];simp only [intOf];omega
def LikeL (l m:List Re):Prop:=m.length = l.length ∧ ∀ k,k < l.length → LikeR (rg l k) (rg m k)
theorem LikeL.nil:LikeL [] []:=⟨rfl,fun k h => by cases h⟩
theorem LikeL.snoc {l m:List Re} {x y:Re} (h:LikeL l m) (hx:LikeR x y):LikeL (l ++ [x]) (m ++ [y]):=by
 refine ⟨by simp [h.1],fun k hk => ?_⟩
 have hk2:k < l.length + 1:=by simpa using hk
 rw [zqa3 (by simpa using hk2),zqa3 (by simp; have:=h.1; omega)]
 by_cases hl:k < l.length
 ·rw [List.getElem_append_left hl,List.getElem_append_left (by have:=h.1; omega),← zqa3,← zqa3]
  exact h.2 k hl
 ·have e:k = l.length:=by omega
  subst e;simp only [List.getElem_append_right (Nat.le_refl _),Nat.sub_self,List.getElem_cons_zero];rw [List.getElem_append_right (by have:=h.1; omega)]
  have e2:l.length - m.length = 0:=by have:=h.1; omega
  simpa [e2] using hx
def CeOwT (w:World) (B:Nat) (I M:Value) (c:Ce):Prop:=∃ ps qs,WsOwn w B I ps ∧ RsT w B M qs ∧ ps.map Prod.snd = c.is ∧ qs.map Prod.snd = c.ns
theorem CeOwT.mem {w:World} {B:Nat} {I M:Value} {c:Ce} (h:CeOwT w B I M c):CeM w I M c:=by
 obtain ⟨ps,qs,h1,h2,h3,h4⟩:=h;exact ⟨h3 ▸ h1.wholes,h4 ▸ h2.reals⟩
theorem CeOwT.below {w w':World} {B:Nat} {I M:Value} {c:Ce} (h:CeOwT w B I M c) (hb:Below w.heap.size w w'):CeOwT w' B I M c:=by
 obtain ⟨ps,qs,h1,h2,h3,h4⟩:=h;exact ⟨ps,qs,h1.below hb,h2.below hb,h3,h4⟩
theorem CeOwT.low {w:World} {B B':Nat} {I M:Value} {c:Ce} (h:CeOwT w B I M c) (hb:B' ≤ B):CeOwT w B' I M c:=by
 obtain ⟨ps,qs,h1,h2,h3,h4⟩:=h;exact ⟨ps,qs,h1.low hb,h2.low hb,h3,h4⟩
theorem CeOwT.setbox {w:World} {C j B:Nat} {T:TypeId} {cs:Array Value} {u I M:Value} {c:Ce} (h:CeOwT w B I M c) (hC:w.heap[C]? = some (.cells cs T (0,0))) (h1:T ≠ 71) (h2:T ≠ 27) (h3:T ≠ 74) (h4:T ≠ 5):CeOwT (w.setCell ⟨C,j,none⟩ u) B I M c:=by
 obtain ⟨ps,qs,k1,k2,k3,k4⟩:=h;exact ⟨ps,qs,k1.setbox hC h1 h2,k2.setbox hC h3 h4,k3,k4⟩
def RdQ4 (w:World) (N:Nat) (v:Value) (c:Ce) (s:Nat × Nat) (r:Ending) (w':World):Prop :=
 (∃ d I M,r = .returned (CeV d I M) ∧ CeOwT w' w.heap.size I M d ∧ LikeC c d) ∧ R3 w' N v s.1 s.2 ∧ w.grownBy w' (some N)
set_option maxHeartbeats 32000000 in
theorem zqp6 (w0 w:World) (D I M V v:Value) (S:Sc) (N:Nat) (b:List Int) (s:Nat × Nat) (h:Sch4 w D I M V S) (hr:R3 w N v s.1 s.2) (hw:Below w0.heap.size w0 w) (hN:w0.heap.size ≤ N) (hv:Ints .u8 w0 v b) (hb:Bt b) (hbl:b.length ≤ 20000) (hs:OkSt b s) (hl:S.is.length ≤ 100 ∧ S.ns.length ≤ 100) :
  Calls Tryz.prog 64 #[SchV D I M V,.pointer (some ⟨N,0,none⟩)] w (RdQ4 w N v (rdCe b S.is.length S.ns.length s).1 (rdCe b S.is.length S.ns.length s).2):=by
 obtain ⟨i0,hi,hz0,hz1,hz2⟩:=info_parts Tryz.infoWhole;obtain ⟨j0,hj,hy0,hy1,hy2⟩:=info_parts Tryz.infoReal;obtain ⟨k0,hkk,hx0,hx1,hx2⟩:=info_parts Tryz.infoU32w;have HBt:=zh (And.intro hb hbl);have HVi:=zh (fun wr (hg:w.grownBy wr (some N)) => hv.below (below_grown hw hg hN))
 have o1:OkSt b (rdC1 b s).2:=zqe5 hb _ hs;have o2:OkSt b (rdC2 b s).2:=zqb3 o1;have o3:OkSt b (rdC3 b S.is.length s).2:=(zqbc (rd:=fun _ s => rdWh b s) (P:=OkSt b) (fun _ _ h => zqgf hb h) o2 _).1
 have H1:=zh (fun w1 (h:R3 w1 N v s.1 s.2) (hv:Ints .u8 w1 v b) => show Calls Tryz.prog 124 #[.pointer (some ⟨N,0,none⟩),.int .u64 18446744073709551615] w1 (fun r w' => r = .returned (.int .u64 (rdC1 b s).1) ∧ R3 w' N v (rdC1 b s).2.1 (rdC1 b s).2.2 ∧ w1.grownBy w' (some N)) from zqf1 w1 N v b s _ h hv hb hbl hs)
 have H2:=zh (fun w1 (h:R3 w1 N v (rdC1 b s).2.1 (rdC1 b s).2.2) (hv:Ints .u8 w1 v b) => show Calls Tryz.prog 125 #[.pointer (some ⟨N,0,none⟩)] w1 (fun r w' => r = .returned (.int .i64 (rdC2 b s).1) ∧ R3 w' N v (rdC2 b s).2.1 (rdC2 b s).2.2 ∧ w1.grownBy w' (some N)) from zqdm w1 N v b _ h hv hb hbl o1)
 obtain ⟨LI,U1,U2,U5,U6,T1,T2,T5,M9,LK,EL,hL0,hL1,hLk,hC1,hC2,hC3,hCk,hC5,hC6,hL3⟩:=zq1w b (rdC2 b s).2 hb hbl o2;obtain ⟨LN,SL,F2,F3,S1,S2,hN0,hN1,hD1,hD2,hD3,hN5⟩:=zq1x b (rdC3 b S.is.length s).2 hb hbl o3;have h3:rdC3 b S.is.length s = LI S.is.length:=hL3 _;have h4:rdC4 b S.is.length S.ns.length s = LN S.ns.length:=hN5 _;have hnn:=hr.lt;have hb1:=zqab w (SchO D I M V);have hb2:=zqab (w.alloc (SchO D I M V)) (.cells #[.int .u64 0,.int .i64 0,.slice none 0 0,.slice none 0 0] 32);have HB:=zh (zqaa hb1 hb2);have HX:=zh ((zqa6 w D I M V).below hb2);have hy:=heap_alloc_new (w.alloc (SchO D I M V)) (.cells #[.int .u64 0,.int .i64 0,.slice none 0 0,.slice none 0 0] 32);rw [World.size_alloc] at hy;have HRr:=zh (show ((w.alloc (SchO D I M V)).alloc (.cells #[.int .u64 0,.int .i64 0,.slice none 0 0,.slice none 0 0] 32)).heap[w.heap.size + 1]? = some (.cells (boxV 0 0 (.slice none 0 0) (.slice none 0 0)) 32 (0,0)) from hy);have HI:=zh (hr.below (zqaa hb1 hb2));show Calls Tryz.prog 64 #[SchV D I M V,.pointer (some ⟨N,0,none⟩)] w (RdQ4 w N v ⟨(rdC1 b s).1,(rdC2 b s).1,(rdC3 b S.is.length s).1,(rdC4 b S.is.length S.ns.length s).1⟩ (rdC4 b S.is.length S.ns.length s).2)
 rw [h4,h3];rw [h3] at hN0;have HL0:=zh hL0;have HL1:=zh hL1;have HLk:=zh hLk;have HC1:=zh (hC1 N v);have HC2:=zh (hC2 N v);have HC3:=zh (hC3 N v);have HCk:=zh (hCk N v);have HC5:=zh (hC5 N v);have HC6:=zh (hC6 N v);have HN0:=zh hN0;have HN1:=zh hN1;have HD1:=zh (hD1 N v);have HD2:=zh (hD2 N v);have HD3:=zh (hD3 N v);have HLs:=zh hl;obtain ⟨⟨a,c,rfl⟩,⟨a2,c2,rfl⟩,⟨a3,c3,rfl⟩,a4,c4,rfl⟩:=h.slices;generalize (rdC1 b s).1 = v1 at *;generalize (rdC2 b s).1 = v2 at *;generalize (rdC1 b s).2 = s1 at *;generalize (rdC2 b s).2 = s2 at *;generalize (rdC3 b S.is.length s).2 = s3 at *;generalize S.is.length = ni at *;generalize S.ns.length = nn at *;generalize S.ds.length = nd at *;generalize S.vs.length = nvs at *;clear o1 o2 o3 hL0 hL1 hLk hC1 hC2 hC3 hCk hC5 hC6 hL3 hN0 hN1 hD1 hD2 hD3 hN5 h3 h4 h hr hs hb hbl hl hw hN hv hb1 hb2 hy;go_enter Tryz.func64,Tryz.ntmps64;go_upto_region 1 with fail;generalize (w.alloc (SchO (.slice a nd c) (.slice a2 ni c2) (.slice a3 nn c3) (.slice a4 nvs c4))).alloc (.cells #[.int .u64 0,.int .i64 0,.slice none 0 0,.slice none 0 0] 32) = W0 at *;go_wp2_with fail;refine (H1.out _ HI.out (HVi.out _ (zqaf HB.out _))).mono ?_; rintro r w1 ⟨rfl,hi1,hg1⟩;have HR1:=zh (zqwx (key:=v1) hi1 (HX.out.grown hg1 (by omega)) (zqah HRr.out hg1 (by omega)) (zqag (zqaf HB.out _) hg1) hnn)
 clear hi1 hg1;go_upto_region 2 with fail;generalize w1.alloc (.cells #[.int .u64 v1,.int .i64 0,.slice none 0 0,.slice none 0 0] 32) = w2 at *;generalize w1.heap.size = K at *;go_wp2_with fail;refine (H2.out _ HR1.out.i (HVi.out _ HR1.out.g)).mono ?_; rintro r w3 ⟨rfl,hi1,hg1⟩;have HR3:=zh (HR1.out.call hi1 hg1);clear hi1 hg1;obtain ⟨⟨e0,e1,e2,e3⟩,ef⟩:=zqac HR3.out.k;go_upto_region 3 with fail;have HR4:=zh (HR3.out.set (zqc5 (x:=v2) HR3.out.k));generalize w3.setCell ⟨K,1,none⟩ (.int .i64 v2) = w4 at *;clear e0 e1 e2 e3 ef;have HR5:=zh (show Rq4 w w4 N v (LI 0).2 (.slice a nd c) (.slice a2 ni c2) (.slice a3 nn c3) (.slice a4 nvs c4) K v1 v2 (.slice none 0 0) [] (.slice none 0 0) [] ∧ ([]:List (Value × Wh)).map Prod.snd = (LI 0).1 by rw [HL0.out]; exact ⟨HR4.out,rfl⟩)
 go_wp2_with fail;go_loopw [6] (fun i wr => ∃ (k:Nat) (iv:Value) (ps:List (Value × Wh)),k ≤ ni ∧ i = .int .i64 k ∧ Hid (Rq4 w wr N v (LI k).2 (.slice a nd c) (.slice a2 ni c2) (.slice a3 nn c3) (.slice a4 nvs c4) K v1 v2 iv ps (.slice none 0 0) [] ∧ ps.map Prod.snd = (LI k).1)) (fun i _ => ni - (intOf i).toNat)
 case atStart => exact ⟨0,_,[],Nat.zero_le _,rfl,HR5⟩
 case round =>
  obtain ⟨k,iv,ps,hk,rfl,HS⟩:=hrel;obtain ⟨ip,ic,hq⟩:=zqai HS.out.1.is.1;subst hq;obtain ⟨x0,x1,x2,x3⟩:=HS.out.1.x.reads
  by_cases hlk:k < ni
  ·have hlk':(k:Int) < (ni:Int):=by omega
   have hle:Hid (k + 1 ≤ ni):=zh (by omega)
   obtain ⟨l1,l3,hm7,hK0⟩:=HL1.out k;have HPs:=zh (show ps.length ≤ 100 by have:=congrArg List.length HS.out.2; rw [List.length_map,l3] at this; have:=HLs.out.1; omega)
   rw [← HS.out.2] at l1;have HS1:=zh HS.out.1;have HI1:=zh (show wrap64 ((k:Int) + 1) = (k:Int) + 1 from wrap64_in (by omega) (by have:=HLs.out.1; omega))
   have G1:=zh (HC1.out k);have G2:=zh (HC2.out k);have G3:=zh (HC3.out k);have G5:=zh (HC5.out k);have G6:=zh (HC6.out k);have HK0:=zh hK0;have HK1:=zh (HLk.out k);have HK2:=zh (HCk.out k);have HL1k:=zh l1;have i9:IntKind.i64.wrap (M9 k:Int) = (M9 k:Int):=IntWalk.i64_in _ (by omega)
   obtain ⟨m,hm⟩:∃ m,M9 k = m:=⟨_,rfl⟩
   rw [hm] at i9 hm7 G3 G5 HL1k;clear l1 l3 hK0 hm HS;generalize wr = wk at *;go_wp2_with fail;refine (G1.out _ HS1.out.i (HVi.out _ HS1.out.g)).mono ?_; rintro r y1 ⟨rfl,hi1,hg1⟩;have HY1:=zh (HS1.out.call hi1 hg1);have HZ1:=zh (zqwz (a0:=(U1 k)) HY1.out);clear hi1 hg1 x0 x1 x2 x3;go_upto_region 7 with fail;generalize y1.alloc (.cells #[.int .i64 (U1 k),.int .i64 0,.slice none 0 0,.int .i64 0,.int .i64 0] 71) = y2 at *;generalize y1.heap.size = X at *;clear HY1;go_wp2_with fail;refine (G2.out _ HZ1.out.c.i (HVi.out _ HZ1.out.c.g)).mono ?_; rintro r y3 ⟨rfl,hi1,hg1⟩;have HZ2:=zh (HZ1.out.call hi1 hg1);clear hi1 hg1;obtain ⟨⟨e0,e1,e2,e3,e4⟩,ef⟩:=zqal HZ2.out.x;go_upto_region 8 with fail;have HZ3:=zh (HZ2.out.set (zqhc (x:=(U2 k)) HZ2.out.x));generalize y3.setCell ⟨X,1,none⟩ (.int .i64 (U2 k)) = y4 at *;clear e0 e1 e2 e3 e4 ef;go_wp2_with fail;refine (G3.out _ HZ3.out.c.i (HVi.out _ HZ3.out.c.g)).mono ?_; rintro r y5 ⟨rfl,hi1,hg1⟩;have HZ4:=zh (show Ry4 w y5 N v (LK k 0).2 (.slice a nd c) (.slice a2 ni c2) (.slice a3 nn c3) (.slice a4 nvs c4) K v1 v2 (.slice ip ps.length ic) ps (.slice none 0 0) [] X (.slice none 0 0) (LK k 0).1 (U1 k) (U2 k) 0 0 by rw [HK0.out]; exact HZ3.out.call hi1 hg1)
   clear hi1 hg1;go_wp2_with fail;go_loopw [9] (fun i wr => ∃ (j:Nat) (q:Value),j ≤ m ∧ i = .int .i64 j ∧ Hid (Ry4 w wr N v (LK k j).2 (.slice a nd c) (.slice a2 ni c2) (.slice a3 nn c3) (.slice a4 nvs c4) K v1 v2 (.slice ip ps.length ic) ps (.slice none 0 0) [] X q (LK k j).1 (U1 k) (U2 k) 0 0)) (fun i _ => m - (intOf i).toNat)
   case atStart => exact ⟨0,_,Nat.zero_le _,rfl,HZ4⟩
   case round =>
    obtain ⟨j,q,hj9,rfl,HQ⟩:=hrel;obtain ⟨qp,qc,hq⟩:=zqai HQ.out.o;subst hq
    by_cases hlj:j < m
    ·have hlj':(j:Int) < (m:Int):=by omega
     have hle2:Hid (j + 1 ≤ m):=zh (by omega)
     obtain ⟨l1,l2,l3,l4⟩:=HK1.out j;have i2:IntKind.u32.wrap (EL k j) = EL k j:=by rw [IntKind.wrap_u32]; omega
     have HLn:=zh (And.intro l4 hm7);clear l4;obtain ⟨⟨e0,e1,e2,e3,e4⟩,ef⟩:=zqal HQ.out.x;go_upto_region 12 with fail;have hk:wr.drew.cell? ⟨X,2,none⟩ = some (.slice qp (LK k j).1.length qc):=e2;have HSd:=zh (HQ.out.below (Below.refl _ _).drew);clear e0 e1 e2 e3 e4 ef;refine zqd8 (S:=fun w' => w'.cell? ⟨X,2,none⟩ = some (.slice qp (LK k j).1.length qc)) 8 (by kernel_rfl) hk (fun _ => ?_)
     refine tkZ 0 39 (.pointer (some ⟨X,2,none⟩)) rfl hk ?_;try simp only [pS]
     refine tkZ 1 40 (.slice qp (LK k j).1.length qc) rfl hk ?_;try simp only [pS]
     refine tkZ 2 41 (.pointer (some ⟨N,0,none⟩)) rfl hk ?_;try simp only [pS]
     refine zqbs (i:=3) (by kernel_rfl) rfl (fun K' hK => ?_)
     rw [if_pos (by kernel_rfl)]
     go_simp;go_at_call 124;refine (HK2.out j _ HSd.out.c.i (HVi.out _ HSd.out.c.g)).mono ?_;rintro r w6 ⟨rfl,hi1,hg1⟩;have HS6:=zh (HSd.out.call hi1 hg1);replace hk:=(zqal HS6.out.x).1.2.2.1;clear hi1 hg1;refine hK.out _ _ hk ?_;try simp only [pS]
     clear hK;refine tkZ 4 43 (.int .u32 (EL k j)) rfl hk ?_;try simp only [pS]
     refine zqbs (i:=5) (by kernel_rfl) rfl (fun K' hK => ?_)
     rw [if_pos (by kernel_rfl)]
     go_simp;have HS7:=zh (HS6.out.below (zqab w6 (.cells #[.int .u32 (EL k j)] 27)));replace hk:=(zqal HS7.out.x).1.2.2.1;refine hK.out _ _ hk ?_;try simp only [pS]
     clear hK;refine zqbs (i:=6) (by kernel_rfl) rfl (fun K' hK => ?_)
     refine zqbz _ (by rfl) _ _ _ (by rfl) X 27 k0 (.int .u32 0) 1 4 Tryz.underlying24 hkk hx0 hx1 hx2 (by simp [Value.cells]) (by decide) _ (LK k j).1.length ((LK k j).1.map (Value.int .u32)) (by rfl) HS7.out.o ⟨w6.heap.size,0,none⟩ 1 1 [.int .u32 (EL k j)] (by rfl) (by rfl) (World.news_of_block (heap_alloc_new w6 _)) (by intro u hu; simp at hu; rcases hu with rfl; rfl) (by have:=HLn.out; unfold maxLen; omega) (by have:=HLn.out; omega) (by have:=(Array.getElem?_eq_some_iff.1 HS7.out.x).1; omega) ?_
     intro v' w7 hown hgrow;have hown2:UOwn w7 X v' (LK k (j + 1)).1:=by
      rw [l1];unfold UOwn;rw [List.length_append,List.map_append];exact hown
     have HC7:=zh (zqaj HS7.out.x HS7.out.o (by decide) hgrow)
     have HS8:=zh (HS7.out.put hgrow hown2 (zqhd HC7.out));have hc7:=(zqal HC7.out).1;have hf7:=(zqal HC7.out).2;replace hk:=hc7.2.2.1;obtain ⟨pv',cv',rfl⟩:=zqai hown;clear hown hgrow hown2;refine hK.out _ _ hk ?_;try simp only [pS]
     clear hK;refine tkZ 7 46 (.pointer (some ⟨X,2,none⟩)) rfl hk ?_;try simp only [pS]
     obtain ⟨-,-,e2,-,-⟩:=hc7;refine zqg4 (by kernel_rfl) rfl (fun K' hK => ?_)
     rw [if_pos (by kernel_rfl)]
     go_simp;refine hK.out _ _ ?_;try simp only [Act.put]
     clear hK;refine zqg3 (by kernel_rfl) ?_ _
     generalize w7.setCell ⟨X,2,none⟩ (.slice pv' ((LK k j).1.length + 1) cv') = w8 at *;clear e2 hf7 hk HS7 HS6 HSd HC7;go_wp2_with fail;go_roundw
     case rel => exact ⟨j + 1,_,hle2.out,by go_num,HS8⟩
     case measure => simp [intOf]; omega
    ·obtain rfl:j = m:=by omega
     go_wp2_with fail;refine (G5.out _ HQ.out.c.i (HVi.out _ HQ.out.c.g)).mono ?_; rintro r w3 ⟨rfl,hi1,hg1⟩;have HR3:=zh (HQ.out.call hi1 hg1);clear hi1 hg1;obtain ⟨⟨e0,e1,e2,e3,e4⟩,ef⟩:=zqal HR3.out.x;go_upto_region 14 with fail;have HR4:=zh (HR3.out.set (zqhe (x:=(U5 k)) HR3.out.x));generalize w3.setCell ⟨X,3,none⟩ (.int .i64 (U5 k)) = w4 at *;clear e0 e1 e2 e3 e4 ef;go_wp2_with fail;refine (G6.out _ HR4.out.c.i (HVi.out _ HR4.out.c.g)).mono ?_; rintro r w5 ⟨rfl,hi1,hg1⟩;have HR5:=zh (HR4.out.call hi1 hg1);clear hi1 hg1;obtain ⟨⟨e0,e1,e2,e3,e4⟩,ef⟩:=zqal HR5.out.x;go_upto_region 15 with fail;have HR6:=zh (HR5.out.set (zqhf (x:=(U6 k)) HR5.out.x));generalize w5.setCell ⟨X,4,none⟩ (.int .i64 (U6 k)) = w6 at *;clear e0 e1 e2 e3 e4 ef;obtain ⟨⟨e0,e1,e2,e3,e4⟩,ef⟩:=zqal HR6.out.x;obtain ⟨⟨f0,f1,f2,f3⟩,ff⟩:=zqac HR6.out.c.k;have HNx:=zh (show ∀ q,(ps ++ [(q,(⟨(U1 k),(U2 k),(LK k j).1,(U5 k),(U6 k)⟩:Wh))]).map Prod.snd = (LI (k + 1)).1 by intro q; rw [HL1k.out]; simp)
     have HX7:=zh (HR6.out.c.below (zqab w6 (.cells #[.int .i64 (U1 k),.int .i64 (U2 k),.slice qp (LK k j).1.length qc,.int .i64 (U5 k),.int .i64 (U6 k)] 71)));have HQ7:=zh (zqax (zqay HR6.out.o (zqab w6 (.cells #[.int .i64 (U1 k),.int .i64 (U2 k),.slice qp (LK k j).1.length qc,.int .i64 (U5 k),.int .i64 (U6 k)] 71))) (show w.heap.size ≤ X by have:=HR6.out.lt; have:=HR6.out.c.kl; omega))
     go_wp2_with (at_builtin; refine wpList_append_own _ rfl _ _ 29 rfl w.heap.size 71 i0 (.agg #[.int .i64 0,.int .i64 0,.slice none 0 0,.int .i64 0,.int .i64 0]) 5 56 Tryz.underlying29 hi hz0 hz1 hz2 zqdp (by decide) _ _ (cellsW ps) rfl HX7.out.is.1 ⟨w6.heap.size,0,none⟩ 1 1 [.int .i64 (U1 k),.int .i64 (U2 k),.slice qp (LK k j).1.length qc,.int .i64 (U5 k),.int .i64 (U6 k)] rfl rfl (World.news_of_block (heap_alloc_new w6 _)) (by intro u hu; simp at hu; rcases hu with rfl | rfl | rfl | rfl | rfl <;> rfl) (by have:=HPs.out; unfold maxLen; omega) (by have:=HPs.out; omega) (by have:=HX7.out.sz; have:=HX7.out.kl; omega) ?_; intro v' w9 hown hgrow hiff; clear hiff; have HZ:=zh (WsOwn.push (x:=⟨(U1 k),(U2 k),(LK k j).1,(U5 k),(U6 k)⟩) HX7.out.is HQ7.out hown hgrow); have HS8:=zh (HX7.out.rowI HZ.out hgrow); have hc7:=(zqac HS8.out.1).1; have hf7:=(zqac HS8.out.1).2; obtain ⟨pv',cv',rfl⟩:=zqai hown; clear hown hgrow e0 e1 e2 e3 e4 ef f0 f1 f2 f3 ff; obtain ⟨g0,g1,g2,g3⟩:=hc7)
     have HS9:=zh HS8.out.2;generalize w9.setCell ⟨K,2,none⟩ (.slice pv' (ps.length + 1) cv') = w10 at *;go_roundw
     case rel => exact ⟨k + 1,_,ps ++ [(.slice qp (LK k j).1.length qc,⟨(U1 k),(U2 k),(LK k j).1,(U5 k),(U6 k)⟩)],hle.out,by rw [HI1.out]; go_num,zh ⟨HS9.out,HNx.out _⟩⟩
     case measure => exact meas14 hlk HI1.out
  ·obtain rfl:k = ni:=by omega
   have HT0:=zh (show Rq4 w wr N v (LN 0).2 (.slice a nd c) (.slice a2 k c2) (.slice a3 nn c3) (.slice a4 nvs c4) K v1 v2 (.slice ip ps.length ic) ps (.slice none 0 0) [] ∧ LikeL (LN 0).1 (([]:List (Value × Re)).map Prod.snd) by rw [HN0.out]; exact ⟨HS.out.1,LikeL.nil⟩)
   have HPI:=zh HS.out.2;clear HS HR5 HL0 HL1 HLk HC1 HC2 HC3 HCk HC5 HC6;generalize (LI k).1 = RI at *;generalize ps.length = pl at *;go_wp2_with fail;clear x0 x1 x2 x3;generalize wr = wq at *;go_loopw [10] (fun i wr => ∃ (j:Nat) (nv:Value) (qs:List (Value × Re)),j ≤ nn ∧ i = .int .i64 j ∧ Hid (Rq4 w wr N v (LN j).2 (.slice a nd c) (.slice a2 k c2) (.slice a3 nn c3) (.slice a4 nvs c4) K v1 v2 (.slice ip pl ic) ps nv qs ∧ LikeL (LN j).1 (qs.map Prod.snd))) (fun i _ => nn - (intOf i).toNat)
   case atStart => exact ⟨0,_,[],Nat.zero_le _,rfl,HT0⟩
   case round =>
    obtain ⟨j,nv,qs,hj9,rfl,HS⟩:=hrel;obtain ⟨np,nc,hq⟩:=zqai HS.out.1.ns.1;subst hq;obtain ⟨x0,x1,x2,x3⟩:=HS.out.1.x.reads
    by_cases hlj:j < nn
    ·have hlj':(j:Int) < (nn:Int):=by omega
     have hle:Hid (j + 1 ≤ nn):=zh (by omega)
     obtain ⟨l1,l3,hbt⟩:=HN1.out j;have HPs:=zh (show qs.length ≤ 100 by have:=HS.out.2.1; rw [List.length_map,l3] at this; have:=HLs.out.2; omega)
     have HLk9:=zh HS.out.2;have HS1:=zh HS.out.1;have HI1:=zh (show wrap64 ((j:Int) + 1) = (j:Int) + 1 from wrap64_in (by omega) (by have:=HLs.out.2; omega))
     have G1:=zh (HD1.out j);have G2:=zh (HD2.out j);have G3:=zh (HD3.out j);have HL1k:=zh l1;have HBl:=zh hbt;obtain ⟨lz,hlz⟩:∃ lz,SL j = lz:=⟨_,rfl⟩
     rw [hlz] at G1 HL1k HBl;clear l1 l3 hbt hlz HS;have hsf:=fun (w:World) (a:Addr) (m:Mode) (k:Nat) => zqbf (P:=Tryz.prog) (w:=w) (a:=a) (m:=m) k
     have hcv:=fun (w:World) => zq0b w (strB lz)
     have hgt:=zq1l;go_wp2_with fail;refine (G1.out _ HS1.out.i (HVi.out _ HS1.out.g)).mono ?_; rintro r y1 ⟨⟨n9,e9,rfl⟩,hi1,hg1⟩;have HY1:=zh (HS1.out.call hi1 hg1);clear hi1 hg1 x0 x1 x2 x3;have HZ1:=zh (zqw0 (HY1.out.below (zqrk y1 (strB lz))) (zqxd y1 HBl.out));go_upto_region 20 with fail;generalize (Lib.bytesWorld y1 5 (strB lz)).alloc (.cells #[.slice (some ⟨y1.heap.size,0,none⟩) (strB lz).size (grownCap y1 (strB lz).size 0 5),.float .f64 0,.float .f64 0] 74) = y2 at *;generalize (Lib.bytesWorld y1 5 (strB lz)).heap.size = X at *;generalize grownCap y1 (strB lz).size 0 5 = gc at *;generalize (strB lz).size = gs at *;generalize (some ⟨y1.heap.size,0,none⟩:Option Addr) = gp at *;clear HY1 hcv hgt;go_wp2_with fail;refine (G2.out _ HZ1.out.c.i (HVi.out _ HZ1.out.c.g)).mono ?_; rintro r y3 ⟨⟨z1,rfl,hw1,hk1⟩,hi1,hg1⟩;have HZ2:=zh (HZ1.out.call hi1 hg1);have HK1:=zh (And.intro hw1 hk1);clear hi1 hg1 hw1 hk1;obtain ⟨⟨e0,e1,e2⟩,ef⟩:=zqb8 HZ2.out.x;go_upto_region 21 with fail;have HZ3:=zh (HZ2.out.set (zql0 (y:=z1) HZ2.out.x));generalize y3.setCell ⟨X,1,none⟩ (.float .f64 z1) = y4 at *;clear e0 e1 e2 ef;go_wp2_with fail;refine (G3.out _ HZ3.out.c.i (HVi.out _ HZ3.out.c.g)).mono ?_; rintro r y5 ⟨⟨z2,rfl,hw1,hk1⟩,hi1,hg1⟩;have HZ4:=zh (HZ3.out.call hi1 hg1);have HK2:=zh (And.intro hw1 hk1);clear hi1 hg1 hw1 hk1;obtain ⟨⟨e0,e1,e2⟩,ef⟩:=zqb8 HZ4.out.x;go_upto_region 22 with fail;have HZ5:=zh (HZ4.out.set (zql1 (y:=z2) HZ4.out.x));generalize y5.setCell ⟨X,2,none⟩ (.float .f64 z2) = y6 at *;clear e0 e1 e2 ef;obtain ⟨⟨e0,e1,e2⟩,ef⟩:=zqb8 HZ5.out.x;obtain ⟨⟨f0,f1,f4,f5⟩,ff⟩:=zqac HZ5.out.c.k;have HNx:=zh (show ∀ q,LikeL (LN (j + 1)).1 ((qs ++ [(q,(⟨lz,z1,z2⟩:Re))]).map Prod.snd) by intro q; rw [HL1k.out,List.map_append]; exact HLk9.out.snoc ⟨rfl,HK1.out.2,HK2.out.2,HK1.out.1,HK2.out.1⟩)
     have HX7:=zh (HZ5.out.c.below (zqab y6 (.cells #[.slice gp gs gc,.float .f64 z1,.float .f64 z2] 74)));have HQ7:=zh (HZ5.out.o.below (zqab y6 (.cells #[.slice gp gs gc,.float .f64 z1,.float .f64 z2] 74)));go_wp2_with (at_builtin; refine wpList_append_own _ rfl _ _ 30 rfl w.heap.size 74 j0 (.agg #[.slice none 0 0,.float .f64 0,.float .f64 0]) 3 40 Tryz.underlying30 hj hy0 hy1 hy2 zqd9 (by decide) _ _ (cellsR qs) rfl HX7.out.ns.1 ⟨y6.heap.size,0,none⟩ 1 1 [.slice gp gs gc,.float .f64 z1,.float .f64 z2] rfl rfl (World.news_of_block (heap_alloc_new y6 _)) (by intro u hu; simp at hu; rcases hu with rfl | rfl | rfl <;> rfl) (by have:=HPs.out; unfold maxLen; omega) (by have:=HPs.out; omega) (by have:=HX7.out.sz; have:=HX7.out.kl; omega) ?_; intro v' w9 hown hgrow hiff; clear hiff; have HZ:=zh (RsT.push (x:=⟨lz,z1,z2⟩) HX7.out.ns HQ7.out hown hgrow); have HS8:=zh (HX7.out.rowN HZ.out hgrow); have hc7:=(zqac HS8.out.1).1; have hf7:=(zqac HS8.out.1).2; obtain ⟨pv',cv',rfl⟩:=zqai hown; clear hown hgrow e0 e1 e2 ef f0 f1 f4 f5 ff; obtain ⟨g0,g1,g2,g3⟩:=hc7)
     have HS9:=zh HS8.out.2;generalize w9.setCell ⟨K,3,none⟩ (.slice pv' (qs.length + 1) cv') = w10 at *;go_roundw
     case rel => exact ⟨j + 1,_,qs ++ [(.slice gp gs gc,⟨lz,z1,z2⟩)],hle.out,by rw [HI1.out]; go_num,zh ⟨HS9.out,HNx.out _⟩⟩
     case measure => exact meas14 hlj HI1.out
    ·obtain rfl:j = nn:=by omega
     obtain ⟨⟨e0,e1,e2,e3⟩,ef⟩:=zqac HS.out.1.k;obtain ⟨⟨r0,r1,r2,r3⟩,rf⟩:=zqac HS.out.1.r;have HF:=zh (zq2b HS.out.1);have HPN:=zh HS.out.2;go_wp2_with fail;generalize (((wr.setCell ⟨w.heap.size + 1,0,none⟩ (.int .u64 v1)).setCell ⟨w.heap.size + 1,1,none⟩ (.int .i64 v2)).setCell ⟨w.heap.size + 1,2,none⟩ (.slice ip pl ic)).setCell ⟨w.heap.size + 1,3,none⟩ (.slice np qs.length nc) = W9 at *;obtain ⟨⟨h1,h2,h3,h4⟩,h5⟩:=HF.out;obtain ⟨⟨r0,r1,r2,r3⟩,-⟩:=zqac h5;exact bodyPost_ret (v:=CeV ⟨v1,v2,RI,qs.map Prod.snd⟩ (.slice ip pl ic) (.slice np qs.length nc)) (by simp [results,Tryz.results64,go_sem,r0,r1,r2,r3]) rfl ⟨⟨_,_,_,rfl,⟨ps,qs,h2,h3,HPI.out,rfl⟩,⟨rfl,rfl,rfl,HPN.out.1,HPN.out.2⟩⟩,h1,h4⟩
end Go.Proofs.YtpgchfihedcdkaaGreatDoor
