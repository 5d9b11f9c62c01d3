/- Contracts that the law leans on: Aggs Agoo. -/
import Derived.Test.YtafmghloohhaeaaGreatDoorPt11
import Derived.Test.YtafmghloohhaeaaGreatDoorPt19
import Derived.Test.YtafmghloohhaeaaGreatDoorPt28
import Derived.Test.YtafmghloohhaeaaGreatDoorPt34
import Derived.Test.YtafmghloohhaeaaGreatDoorPt35
namespace Go.Proofs.YtafmghloohhaeaaGreatDoor
set_option maxRecDepth 100000
open Go.RowKit
set_option linter.unusedVariables false
theorem zqen {w:World} {K o:Nat} {T:TypeId} {k n:Int} {x y:Option Addr} {l c m d:Nat} {v:Value} (h:w.heap[K]? = some (.cells #[.int .u64 k,.int .i64 n,.slice x l c,.slice y m d] T (0,0))) (hv:w.cell? ⟨K,o,none⟩ = some v) :
  (o = 0 ∧ v = .int .u64 k) ∨ (o = 1 ∧ v = .int .i64 n) ∨ (o = 2 ∧ v = .slice x l c) ∨ (o = 3 ∧ v = .slice y m d):=by
 match o,hv with
 | 0,hv => simp [World.cell?,h] at hv; exact .inl ⟨rfl,hv.symm⟩
 | 1,hv => simp [World.cell?,h] at hv; exact .inr (.inl ⟨rfl,hv.symm⟩)
 | 2,hv => simp [World.cell?,h] at hv; exact .inr (.inr (.inl ⟨rfl,hv.symm⟩))
 | 3,hv => simp [World.cell?,h] at hv; exact .inr (.inr (.inr ⟨rfl,hv.symm⟩))
 | o + 4,hv => simp [World.cell?,h] at hv
theorem zqb1 {w:World} {K:Nat} {k n:Int} {I N:Value} {p:Addr} (hp:p.block ≠ K):(set4 w K k n I N).cell? p = w.cell? p:=by
 unfold set4;rw [World.cell?_setCell_far _ _ _ _ (by simpa using Ne.symm hp),World.cell?_setCell_far _ _ _ _ (by simpa using Ne.symm hp),World.cell?_setCell_far _ _ _ _ (by simpa using Ne.symm hp),World.cell?_setCell_far _ _ _ _ (by simpa using Ne.symm hp)]
theorem zqgz {w:World} {K:Nat} {k n:Int} {I N:Value}:(set4 w K k n I N).heap.size = w.heap.size:=by simp [World.setCell]
theorem zqkz {w:World} {K:Nat} {T:TypeId} {k n k' n':Int} {x y:Option Addr} {l c m d:Nat} {I N u:Value} {q:IntKind} {xs:List Int} (h:w.heap[K]? = some (.cells #[.int .u64 k,.int .i64 n,.slice x l c,.slice y m d] T (0,0))) (h1:q ≠ .u64) (h2:q ≠ .i64) (hu:Ints q w u xs):Ints q (set4 w K k' n' I N) u xs:=by
 obtain ⟨a,cap,rfl,hc,h3⟩:=hu;refine ⟨a,cap,rfl,hc,h3.imp id ?_⟩;rintro ⟨b,off,rfl,hlt,hcell⟩;refine ⟨b,off,rfl,by rw [zqgz]; exact hlt,fun i hi => ?_⟩
 have hne:b ≠ K:=by
  intro e;subst e;rcases zqen h (hcell i hi) with ⟨-,q1⟩ | ⟨-,q1⟩ | ⟨-,q1⟩ | ⟨-,q1⟩
  ·injection q1 with q2 _; exact h1 q2
  ·injection q1 with q2 _; exact h2 q2
  ·cases q1
  ·cases q1
 rw [zqb1 (by simpa using hne)]
 exact hcell i hi
theorem zqog {w:World} {K:Nat} {T:TypeId} {k n k' n':Int} {x y:Option Addr} {l c m d:Nat} {I N u:Value} {xs:List Wh} (h:w.heap[K]? = some (.cells #[.int .u64 k,.int .i64 n,.slice x l c,.slice y m d] T (0,0))) (hu:Wholes w u xs):Wholes (set4 w K k' n' I N) u xs:=by
 obtain ⟨a,cap,rfl,hc,hm,h3⟩:=hu;refine ⟨a,cap,rfl,hc,hm,h3.imp id ?_⟩;rintro ⟨b,off,rfl,hlt,hcell⟩;refine ⟨b,off,rfl,by rw [zqgz]; exact hlt,fun i hi => ?_⟩
 obtain ⟨q,c0,c1,c2,c3,c4,hs⟩:=hcell i hi;have hne:b ≠ K:=by
  intro e;subst e;rcases zqen h c0 with ⟨q0,q1⟩ | ⟨q0,q1⟩ | ⟨q0,q1⟩ | ⟨q0,q1⟩
  ·cases q1
  ·rw [q0] at c1;rcases zqen h c1 with ⟨p0,p1⟩ | ⟨p0,p1⟩ | ⟨p0,p1⟩ | ⟨p0,p1⟩
   ·cases p0
   ·cases p0
   ·cases p1
   ·cases p1
  ·cases q1
  ·cases q1
 exact ⟨q,by rw [zqb1 (by simpa using hne)]; exact c0,by rw [zqb1 (by simpa using hne)]; exact c1,by rw [zqb1 (by simpa using hne)]; exact c2,by rw [zqb1 (by simpa using hne)]; exact c3,by rw [zqb1 (by simpa using hne)]; exact c4,zqkz h (by decide) (by decide) hs⟩
theorem zqrb {w:World} {K:Nat} {T:TypeId} {k n k' n':Int} {x y:Option Addr} {l c m d:Nat} {I N u:Value} {xs:List Re} (h:w.heap[K]? = some (.cells #[.int .u64 k,.int .i64 n,.slice x l c,.slice y m d] T (0,0))) (hu:Reals w u xs):Reals (set4 w K k' n' I N) u xs:=by
 obtain ⟨a,cap,rfl,hc,hm,h3⟩:=hu;refine ⟨a,cap,rfl,hc,hm,h3.imp id ?_⟩;rintro ⟨b,off,rfl,hlt,hcell⟩;refine ⟨b,off,rfl,by rw [zqgz]; exact hlt,fun i hi => ?_⟩
 obtain ⟨q,c0,c1,c2,hs⟩:=hcell i hi;have hne:b ≠ K:=by
  intro e;subst e;rcases zqen h c1 with ⟨q0,q1⟩ | ⟨q0,q1⟩ | ⟨q0,q1⟩ | ⟨q0,q1⟩ <;> cases q1
 exact ⟨q,by rw [zqb1 (by simpa using hne)]; exact c0,by rw [zqb1 (by simpa using hne)]; exact c1,by rw [zqb1 (by simpa using hne)]; exact c2,zqkz h (by decide) (by decide) hs⟩
theorem CeM.set4 {w:World} {K:Nat} {T:TypeId} {k n k' n':Int} {x y:Option Addr} {l c m d:Nat} {I N I' N':Value} {e:Ce} (h:w.heap[K]? = some (.cells #[.int .u64 k,.int .i64 n,.slice x l c,.slice y m d] T (0,0))) (hm:CeM w I N e):CeM (set4 w K k' n' I' N') I N e:=⟨zqog h hm.i,zqrb h hm.n⟩
end Go.Proofs.YtafmghloohhaeaaGreatDoor
namespace Go.Proofs.YtafmghloohhaeaaGreatDoor.aggPuts
set_option maxRecDepth 100000
open Go.ChangeShapes Go.WideShapes Go.ChangeAt Go.RowKit
set_option linter.unusedVariables false
theorem zqwf {x:Wh} (h:WhW x) (hl:x.sq.length ≤ 9223372036854775807):Bt (encWh x):=by
 unfold encWh;exact (((((zqfe h.sum.1 h.sum.2).append (zqfe h.abs.1 h.abs.2)).append (zqg9 (by omega))).append (zqha fun z hz => by have:=h.sq z hz; exact zqg9 (by omega))).append (zqfe h.mn.1 h.mn.2)).append (zqfe h.mx.1 h.mx.2)
theorem zqwe {x:Re} (h:ReW x):Bt (encRe x):=by
 have:=h.len;unfold encRe;exact (((zqg9 (by omega)).append h.sum).append (zqc9 _ _)).append (zqc9 _ _)
theorem zqon {c:Ce} (h:CeW c):Bt (encC c):=by
 have:=h.key;unfold encC;exact (((zqg9 (by omega)).append (zqfe h.cnt.1 h.cnt.2)).append (zqha fun x hx => zqwf (h.is x hx) (h.is x hx).len)).append (zqha fun x hx => zqwe (h.ns x hx))
theorem zqoo {c:Ce} (h:CeW c) (hl:lightC c = true):(encC c).length ≤ 6000:=by
 obtain ⟨m1,m2,m3,m4⟩:=zqdv.1 hl;have l0:=(zqa3 (x:=c.key.toNat) (by have:=h.key; omega)).2
 have l1:=(zqaz h.cnt.1 h.cnt.2).2;have e1:=zqgg (e:=encWh) (n:=225) (l:=c.is) (fun x hx => by
  obtain ⟨i,hi,rfl⟩:=List.getElem_of_mem hx;exact zqh2 (h.is _ hx) (by have:=m3 i hi; rwa [zqa5 hi] at this))
 have e2:=zqgg (e:=encRe) (n:=325) (l:=c.ns) (fun x hx => by
  obtain ⟨i,hi,rfl⟩:=List.getElem_of_mem hx;exact zqh1 (by have:=m4 i hi; rwa [zqax hi] at this))
 unfold encC;simp only [List.length_append];omega
def ZB (B:Nat) (w:World) (T:Nat):Prop:=w.heap[T]? = some (.cells (boxV 0 0 (.slice none 0 0) (.slice none 0 0)) 32 (0,0)) ∧ B ≤ T
theorem zqbw {B:Nat} (w:World) (h:B ≤ w.heap.size):ZB B (w.alloc (.cells #[.int .u64 0,.int .i64 0,.slice none 0 0,.slice none 0 0] 32)) w.heap.size:=⟨heap_alloc_new w _,h⟩
theorem ZB.below {B T:Nat} {w w':World} (h:ZB B w T) (hb:Below w.heap.size w w'):ZB B w' T:=⟨(hb.block _ (Array.getElem?_eq_some_iff.1 h.1).1).trans h.1,h.2⟩
theorem ZB.own {B T:Nat} {w w':World} {B' n:Nat} {v:Value} {xs:List Value} (h:ZB B w T) (ho:w.ownsRow B' 5 1 v n xs) (hg:w.grownBy w' v.ownBlock):ZB B w' T:=⟨zqal h.1 ho (by decide) hg,h.2⟩
theorem ZB.drew {B T:Nat} {w:World} (h:ZB B w T):ZB B w.drew T:=h
theorem zqcv {k:IntKind} {w:World} {v:Value} {l:List Int} (h:Ints k w v l):Ints k w.drew v l:=h.below (Below.refl _ _).drew
theorem zqmn (w:World):Ints .u8 (w.alloc (.cells #[.int .u8 1,.int .u8 2] 5)) (.slice (some ⟨w.heap.size,0,none⟩) 2 2) [1,2] :=
 ⟨_,_,rfl,by simp,.inr ⟨w.heap.size,0,rfl,by simp,fun i hi => by
  have h:i = 0 ∨ i = 1:=by simp at hi; omega
  rcases h with rfl | rfl <;> simp [go_sem]⟩⟩
theorem zqa9 (w:World) (n:Nat) (hn:w.heap.size = n):Ints .u8 (w.alloc (.cells #[.int .u8 1,.int .u8 2] 5)) (.slice (some ⟨n,0,none⟩) 2 2) [1,2]:=by subst hn; exact zqmn w
theorem hold4p {w w':World} {p0 p1 p2 p3:Addr} {v0 v1 v2 v3:Value} (h:w.cell? p0 = some v0 ∧ w.cell? p1 = some v1 ∧ w.cell? p2 = some v2 ∧ w.cell? p3 = some v3) (hb:Below w.heap.size w w'):w'.cell? p0 = some v0 ∧ w'.cell? p1 = some v1 ∧ w'.cell? p2 = some v2 ∧ w'.cell? p3 = some v3 :=
 ⟨cell_later hb h.1,cell_later hb h.2.1,cell_later hb h.2.2.1,cell_later hb h.2.2.2⟩
theorem zqhw (w:World) (o:Obj):Below w.heap.size w (w.drew.alloc o):=zqb4 (zqab w.drew o)
theorem zqlu {P:Program} (w:World) (t ty e:TypeId) (i:TypeInfo) (z:Value) (bytes:Nat) (ht:P.underlying t = some (.slice e)) (hi:P.info? e = some i) (hz:i.zero = some z) (hsize:i.size = 1) (hby:i.bytes = bytes) (hzs:z.cells.size = 1)
  (v2:Value) (ns:List Int) (eb:Nat) (hv2:Ints .u8 w v2 ns) (h0:ns ≠ []) (h63:ns.length ≤ maxLen) (hbytes:ns.length * bytes ≤ 140737488355328) :
  ∃ v' w',(Builtin.append_ #[t,t] ty #[.slice (some ⟨eb,0,none⟩) 0 0,v2]).run P w = .ok v' w' ∧ w'.ownsRow w.heap.size e 1 v' ns.length (ns.map (Value.int .u8)) ∧ Below w.heap.size w w':=by
 obtain ⟨a,cap,rfl,hc,ha⟩:=hv2;have hl0:0 < ns.length:=List.length_pos_iff.2 h0;rcases ha with h | ⟨b,off,rfl,_,hcell⟩
 ·exact absurd h h0
 have hnews:∀ j u,(ns.map (Value.int .u8))[j]? = some u → w.cell? ((⟨b,off,none⟩:Addr).add j) = some u:=fun j u hj => by
  rw [List.getElem?_map] at hj;obtain ⟨x,hx,rfl⟩:=Option.map_eq_some_iff.1 hj;have hh:=hcell j (List.getElem?_eq_some_iff.1 hx).1;have e1:ns.getD j 0 = x:=by simp [List.getD,hx]
  rw [e1] at hh
  by_cases h0:j = 0
  ·subst h0; simpa [Addr.add] using hh
  ·simpa [Addr.add,h0] using hh
 have hge:=grownCap_ge w (0 + ns.length) 0 e;have hcm:=grownCap_le_maxLen w (0 + ns.length) 0 e (by omega)
 have hsmall:0 + ns.length ≤ 9223372036854775807:=by simp only [maxLen] at h63; omega
 have hr:=run_append_grow (P:=P) w t ty e i z ht hi hz ⟨eb,0,none⟩ 0 0 [] (by simp) (fun j v hj => by simp at hj) ⟨b,off,none⟩ ns.length cap (ns.map (Value.int .u8)) (by simp [hsize]) hnews (by omega) (by omega) (growslice_fits (by omega) (by rw [hby]; simpa using hbytes))
 refine ⟨_,_,hr,⟨by simp,.inr ⟨w.heap.size,_,_,by rw [Nat.zero_add],Nat.le_refl _,heap_alloc_new w.drew _,by simpa using hge,hcm,?_,?_⟩⟩,zqhw _ _⟩
 ·simp only [Array.size_append,List.size_toArray,size_zeroCells,hzs,List.length_nil,List.length_map];omega
 ·simp
theorem zqjv {P:Program} (w:World) {ops:Array Oper} {o:Oper} {a:Act} {K:Act → World → Prop} {Q:Exit → Act → World → Prop} {E:Prop} (hgd:o.guard = none) (s x:Operand) (t:TypeId)
  (ho:o.op = .call { callee:=.builtin .append,args:=#[s,x],argTypes:=#[t,t] })
  (e:TypeId) (i:TypeInfo) (z:Value) (bytes:Nat) (ht:P.underlying t = some (.slice e)) (hi:P.info? e = some i) (hz:i.zero = some z) (hsize:i.size = 1) (hby:i.bytes = bytes) (hzs:z.cells.size = 1)
  (v2:Value) (ns:List Int) (eb:Nat) (hs:a.eval s = .slice (some ⟨eb,0,none⟩) 0 0) (hx:a.eval x = v2) (hv2:Ints .u8 w v2 ns) (h0:ns ≠ []) (h63:ns.length ≤ maxLen) (hbytes:ns.length * bytes ≤ 140737488355328)
  (h:∀ v' w',w'.ownsRow w.heap.size e 1 v' ns.length (ns.map (Value.int .u8)) → Below w.heap.size w w' → K (a.put o.dst v') w') :
  if Region.wanted o (yielded ops a.tmps) = true then Oper.wp P o a w K Q else E:=by
 have hw:Region.wanted o (yielded ops a.tmps) = true:=by simp [Region.wanted,hgd]
 rw [if_pos hw];obtain ⟨v',w',hrun,r1,r2⟩:=zqlu (P:=P) w t o.type e i z bytes ht hi hz hsize hby hzs v2 ns eb hv2 h0 h63 hbytes;unfold Oper.wp;simp [execOp,ho,resolve,invoke,builtin,hs,hx,hrun,Result.andThen];exact h v' w' r1 r2
theorem zqoq {w wd:World} {T:Nat} {d:Ce} {p' q':Option Addr} {k1' k2':Nat} (hB:Below w.heap.size w wd) (hZ:ZB w.heap.size wd T) (hD:CeM wd (.slice p' d.is.length k1') (.slice q' d.ns.length k2') d) :
  Below w.heap.size w (set4 wd T d.key d.cnt (.slice p' d.is.length k1') (.slice q' d.ns.length k2')) ∧ (set4 wd T d.key d.cnt (.slice p' d.is.length k1') (.slice q' d.ns.length k2')).heap[T]? = some (.cells (boxV d.key d.cnt (.slice p' d.is.length k1') (.slice q' d.ns.length k2')) 32 (0,0)) ∧ CeM (set4 wd T d.key d.cnt (.slice p' d.is.length k1') (.slice q' d.ns.length k2')) (.slice p' d.is.length k1') (.slice q' d.ns.length k2') d :=
 ⟨zqbi hB hZ.2,zqb0 hZ.1,CeM.set4 hZ.1 hD⟩
theorem zquk {S:Sc} {m:Int} {c:Ce} (h:CeW c) (hr:rightC S m c = true) (rest:List Int):gotE S m (encC c ++ rest) = 0 ∧ gotC S m (encC c ++ rest) = normCe c ∧ gotN S m (encC c ++ rest) = (encC c).length:=by
 obtain ⟨h1,h2⟩:=zquj h hr rest;have hk:checkL S = 0 ∧ m ≤ fullL S.ds:=by
  unfold rightC at hr;rw [Bool.and_eq_true,decide_eq_true_iff] at hr;exact hr.1
 have h0:gotE S m (encC c ++ rest) = 0:=by unfold gotE; rw [if_pos hk,h1,if_pos rfl,if_pos h2]
 exact ⟨h0,by unfold gotC; rw [if_pos h0,h1],by unfold gotN; rw [if_pos h0,h1]⟩
end Go.Proofs.YtafmghloohhaeaaGreatDoor.aggPuts
