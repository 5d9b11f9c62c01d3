/- Contracts that the law leans on: Celm Celn Celo Celc Celd. -/
import Derived.Deep.CutBlock
import Derived.Test.YtmnbljijnbhghaaGreatDoorPt02
import Derived.Test.YtmnbljijnbhghaaGreatDoorPt08
import Derived.Test.YtmnbljijnbhghaaGreatDoorPt28
namespace Go.Proofs.YtmnbljijnbhghaaGreatDoor
set_option maxRecDepth 100000
open Go.RowKit
set_option linter.unusedVariables false
theorem Tryz.infoU32c:(Tryz.prog.info? 27).map (fun i => (i.zero,i.size,i.bytes)) = some (some (.int .u32 0),1,4):=by kernel_rfl
theorem zqo6:(Value.int .u32 0).cells.size = 1:=by simp [Value.cells]
theorem zqr4:(Value.int .u8 0).cells.size = 1:=by simp [Value.cells]
theorem zqlb {k:IntKind} {w:World} {v:Value} {l:List Int} (h:Ints k w v l):NewsAt w v l.length (l.map (Value.int k)):=by
 obtain ⟨a,cap,rfl,-,h2⟩:=h;refine ⟨a,cap,rfl,?_⟩;rcases h2 with rfl | ⟨b,off,rfl,-,hc⟩
 ·exact .inl ⟨rfl,rfl⟩
 ·refine .inr ⟨b,off,rfl,fun j u hu => ?_⟩
  rw [List.getElem?_map] at hu;obtain ⟨x,hx,rfl⟩:=Option.map_eq_some_iff.1 hu;have hl:=(List.getElem?_eq_some_iff.1 hx).1;have:=hc j hl;rw [show l.getD j 0 = x by simp [List.getD,hx]] at this
  exact this
theorem zqb0 {w w':World} {v:Value} {m:Nat} {news:List Value} (h:NewsAt w v m news) (hb:Below w.heap.size w w'):NewsAt w' v m news:=by
 obtain ⟨a,cap,rfl,h2⟩:=h;refine ⟨a,cap,rfl,h2.imp id ?_⟩;rintro ⟨b,off,rfl,hc⟩;exact ⟨b,off,rfl,fun j u hu => cell_later hb (hc j u hu)⟩
theorem zqc2 {w:World} {v:Value} {m:Nat} {news:List Value} (h:NewsAt w v m news):∃ a c,v = .slice a m c:=by
 obtain ⟨a,cap,rfl,-⟩:=h; exact ⟨_,_,rfl⟩
theorem zqfy {w:World} {m cap:Nat} {news:List Value} (h:NewsAt w (.slice none m cap) m news):news = [] ∧ m = 0:=by
 obtain ⟨a,c,e,h2⟩:=h;injection e with e1 e2 e3;subst e1;rcases h2 with h2 | ⟨b,off,e,-⟩
 ·exact h2
 ·cases e
def CloneP (E:TypeId) (sz:Nat) (w:World) (m:Nat) (news:List Value) (e:Ending) (w':World):Prop:=(∃ v,e = .returned v ∧ w'.ownsRow w.heap.size E sz v m news) ∧ Below w.heap.size w w'
set_option maxHeartbeats 8000000 in
theorem zqqf (w:World) (v:Value) (m:Nat) (news:List Value) (h:NewsAt w v m news) (hl:news.length = m * 5) (one:∀ u ∈ news,u.oneCell' = true) (hm:m ≤ 1000) :
  Calls Tryz.prog 104 #[v] w (CloneP 85 5 w m news):=by
 obtain ⟨i0,hi,hz0,hz1,hz2⟩:=info_parts Tryz.infoWhole;have qT:∀ (w:World) (a:Option Addr) (n c n' c':Nat),(binOp .eql 35 (.slice a n c) (.slice none n' c')).run Tryz.prog w = .ok (.bool a.isNone) w:=fun w a n c n' c' => Lib.run_eql_slice_nil w _ _ a n c n' c' Tryz.underlying35
 have HN:=zh h;have HL:=zh hl;have HO:=zh one;obtain ⟨a,c,rfl⟩:=zqc2 h;cases a with
 | none =>
  obtain ⟨rfl,rfl⟩:=zqfy h;clear h hl one;go_enter Tryz.func104,Tryz.ntmps104;go_wp2_with (simp only [qT,Option.isNone]);go_ret;exact ⟨⟨_,rfl,⟨by simp,.inl ⟨rfl,rfl⟩⟩⟩,Below.refl _ _⟩
 | some ad =>
  clear h hl one;go_enter Tryz.func104,Tryz.ntmps104;go_wp2_with (first | simp only [qT,Option.isNone] | (at_builtin; refine zqbd _ (by rfl) _ _ 35 rfl w.heap.size 85 i0 (.agg #[.int .i64 0,.int .i64 0,.slice none 0 0,.int .i64 0,.int .i64 0]) 5 56 Tryz.underlying35 hi hz0 hz1 hz2 zqcw (by decide) _ _ 0 m [] news rfl rfl (World.ownsRow_lit w #[] 0 (Nat.le_refl _) (by decide) rfl) (zqb0 HN.out (zqab _ _)) HL.out HO.out (by unfold maxLen; omega) (by omega) (by simp) ?_; intro v' w3 hown hgrow; rw [Nat.zero_add,List.nil_append] at hown; have HB3:=zh (zqfw hgrow); have HW3:=zh hown; obtain ⟨pv,cv,rfl⟩:=zqae hown; clear hown hgrow))
  go_ret;exact ⟨⟨_,rfl,HW3.out⟩,HB3.out⟩
set_option maxHeartbeats 8000000 in
theorem zqqd (w:World) (v:Value) (m:Nat) (news:List Value) (h:NewsAt w v m news) (hl:news.length = m * 3) (one:∀ u ∈ news,u.oneCell' = true) (hm:m ≤ 1000) :
  Calls Tryz.prog 105 #[v] w (CloneP 90 3 w m news):=by
 obtain ⟨i0,hi,hz0,hz1,hz2⟩:=info_parts Tryz.infoReal;have qT:∀ (w:World) (a:Option Addr) (n c n' c':Nat),(binOp .eql 36 (.slice a n c) (.slice none n' c')).run Tryz.prog w = .ok (.bool a.isNone) w:=fun w a n c n' c' => Lib.run_eql_slice_nil w _ _ a n c n' c' Tryz.underlying36
 have HN:=zh h;have HL:=zh hl;have HO:=zh one;obtain ⟨a,c,rfl⟩:=zqc2 h;cases a with
 | none =>
  obtain ⟨rfl,rfl⟩:=zqfy h;clear h hl one;go_enter Tryz.func105,Tryz.ntmps105;go_wp2_with (simp only [qT,Option.isNone]);go_ret;exact ⟨⟨_,rfl,⟨by simp,.inl ⟨rfl,rfl⟩⟩⟩,Below.refl _ _⟩
 | some ad =>
  clear h hl one;go_enter Tryz.func105,Tryz.ntmps105;go_wp2_with (first | simp only [qT,Option.isNone] | (at_builtin; refine zqbd _ (by rfl) _ _ 36 rfl w.heap.size 90 i0 (.agg #[.slice none 0 0,.float .f64 0,.float .f64 0]) 3 40 Tryz.underlying36 hi hz0 hz1 hz2 zqda (by decide) _ _ 0 m [] news rfl rfl (World.ownsRow_lit w #[] 0 (Nat.le_refl _) (by decide) rfl) (zqb0 HN.out (zqab _ _)) HL.out HO.out (by unfold maxLen; omega) (by omega) (by simp) ?_; intro v' w3 hown hgrow; rw [Nat.zero_add,List.nil_append] at hown; have HB3:=zh (zqfw hgrow); have HW3:=zh hown; obtain ⟨pv,cv,rfl⟩:=zqae hown; clear hown hgrow))
  go_ret;exact ⟨⟨_,rfl,HW3.out⟩,HB3.out⟩
set_option maxHeartbeats 8000000 in
theorem zqqe (w:World) (v:Value) (m:Nat) (news:List Value) (h:NewsAt w v m news) (hl:news.length = m * 1) (one:∀ u ∈ news,u.oneCell' = true) (hm:m ≤ 100000) :
  Calls Tryz.prog 106 #[v] w (CloneP 27 1 w m news):=by
 obtain ⟨i0,hi,hz0,hz1,hz2⟩:=info_parts Tryz.infoU32c;have qT:∀ (w:World) (a:Option Addr) (n c n' c':Nat),(binOp .eql 24 (.slice a n c) (.slice none n' c')).run Tryz.prog w = .ok (.bool a.isNone) w:=fun w a n c n' c' => Lib.run_eql_slice_nil w _ _ a n c n' c' Tryz.underlying24
 have HN:=zh h;have HL:=zh hl;have HO:=zh one;obtain ⟨a,c,rfl⟩:=zqc2 h;cases a with
 | none =>
  obtain ⟨rfl,rfl⟩:=zqfy h;clear h hl one;go_enter Tryz.func106,Tryz.ntmps106;go_wp2_with (simp only [qT,Option.isNone]);go_ret;exact ⟨⟨_,rfl,⟨by simp,.inl ⟨rfl,rfl⟩⟩⟩,Below.refl _ _⟩
 | some ad =>
  clear h hl one;go_enter Tryz.func106,Tryz.ntmps106;go_wp2_with (first | simp only [qT,Option.isNone] | (at_builtin; refine zqbd _ (by rfl) _ _ 24 rfl w.heap.size 27 i0 (.int .u32 0) 1 4 Tryz.underlying24 hi hz0 hz1 hz2 zqo6 (by decide) _ _ 0 m [] news rfl rfl (World.ownsRow_lit w #[] 0 (Nat.le_refl _) (by decide) rfl) (zqb0 HN.out (zqab _ _)) HL.out HO.out (by unfold maxLen; omega) (by omega) (by simp) ?_; intro v' w3 hown hgrow; rw [Nat.zero_add,List.nil_append] at hown; have HB3:=zh (zqfw hgrow); have HW3:=zh hown; obtain ⟨pv,cv,rfl⟩:=zqae hown; clear hown hgrow))
  go_ret;exact ⟨⟨_,rfl,HW3.out⟩,HB3.out⟩
set_option maxHeartbeats 8000000 in
theorem zqqc (w:World) (v:Value) (m:Nat) (news:List Value) (h:NewsAt w v m news) (hl:news.length = m * 1) (one:∀ u ∈ news,u.oneCell' = true) (hm:m ≤ 100000) :
  Calls Tryz.prog 107 #[v] w (CloneP 5 1 w m news):=by
 obtain ⟨i0,hi,hz0,hz1,hz2⟩:=info_parts Tryz.infoU8;have qT:∀ (w:World) (a:Option Addr) (n c n' c':Nat),(binOp .eql 87 (.slice a n c) (.slice none n' c')).run Tryz.prog w = .ok (.bool a.isNone) w:=fun w a n c n' c' => Lib.run_eql_slice_nil w _ _ a n c n' c' Tryz.underlying87
 have HN:=zh h;have HL:=zh hl;have HO:=zh one;obtain ⟨a,c,rfl⟩:=zqc2 h;cases a with
 | none =>
  obtain ⟨rfl,rfl⟩:=zqfy h;clear h hl one;go_enter Tryz.func107,Tryz.ntmps107;go_wp2_with (simp only [qT,Option.isNone]);go_ret;exact ⟨⟨_,rfl,⟨by simp,.inl ⟨rfl,rfl⟩⟩⟩,Below.refl _ _⟩
 | some ad =>
  clear h hl one;go_enter Tryz.func107,Tryz.ntmps107;go_wp2_with (first | simp only [qT,Option.isNone] | (at_builtin; refine zqbd _ (by rfl) _ _ 87 rfl w.heap.size 5 i0 (.int .u8 0) 1 1 Tryz.underlying87 hi hz0 hz1 hz2 zqr4 (by decide) _ _ 0 m [] news rfl rfl (World.ownsRow_lit w #[] 0 (Nat.le_refl _) (by decide) rfl) (zqb0 HN.out (zqab _ _)) HL.out HO.out (by unfold maxLen; omega) (by omega) (by simp) ?_; intro v' w3 hown hgrow; rw [Nat.zero_add,List.nil_append] at hown; have HB3:=zh (zqfw hgrow); have HW3:=zh hown; obtain ⟨pv,cv,rfl⟩:=zqae hown; clear hown hgrow))
  go_ret;exact ⟨⟨_,rfl,HW3.out⟩,HB3.out⟩
theorem zqci {w:World} {B E sz n g cap j:Nat} {xs:List Value} (h:w.ownsRow B E sz (.slice (some ⟨g,0,none⟩) n cap) n xs) (hj:j < n * sz) (u:Value) :
  (w.setCell ⟨g,j,none⟩ u).ownsRow B E sz (.slice (some ⟨g,0,none⟩) n cap) n (xs.set j u) ∧ w.frozen? ⟨g,j,none⟩ = false ∧ w.cell? ⟨g,j,none⟩ = xs[j]?:=by
 refine ⟨⟨by rw [List.length_set]; exact h.1,?_⟩,?_,World.ownsRow.cellAt h j hj⟩
 ·rcases h.2 with ⟨e,-⟩ | ⟨g',cap',cur,e,h2,h3,h4,h5,h6,h7⟩
  ·cases e
  ·injection e with e1 e2 e3;injection e1 with e1;injection e1 with e1;subst e1 e3;refine .inr ⟨g,cap,cur.setIfInBounds j u,rfl,h2,by simp [World.setCell,Array.getElem?_modify,h3],h4,h5,by simpa using h6,?_⟩
   rw [Array.toList_setIfInBounds,List.take_set,h7]
 ·rcases h.2 with ⟨e,-⟩ | ⟨g',cap',cur,e,h2,h3,h4,h5,h6,h7⟩
  ·cases e
  ·injection e with e1 e2 e3;injection e1 with e1;injection e1 with e1;subst e1;simp [World.frozen?,h3]
theorem zqiy:∀ (ps:List (Value × Wh)) (k:Nat) (q:Value) (hk:k < ps.length),(cellsW ps).set (k * 5 + 2) q = cellsW (ps.set k (q,ps[k].2))
 | p :: ps,0,q,_ => by simp [cellsW]
 | p :: ps,k + 1,q,hk => by
  have ih:=zqiy ps k q (by simpa using hk)
  rw [cellsW,List.set_append,if_neg (by simp; omega)]
  have e:(k + 1) * 5 + 2 - (rowW p.1 p.2).length = k * 5 + 2:=by simp; omega
  rw [e,ih]; rfl
theorem zqix:∀ (ps:List (Value × Re)) (k:Nat) (q:Value) (hk:k < ps.length),(cellsR ps).set (k * 3) q = cellsR (ps.set k (q,ps[k].2))
 | p :: ps,0,q,_ => by simp [cellsR]
 | p :: ps,k + 1,q,hk => by
  have ih:=zqix ps k q (by simpa using hk)
  rw [cellsR,List.set_append,if_neg (by simp; omega)]
  have e:(k + 1) * 3 - (rowR p.1 p.2).length = k * 3:=by simp; omega
  rw [e,ih]; rfl
theorem onesW:∀ {ps:List (Value × Wh)},(∀ p ∈ ps,p.1.oneCell' = true) → ∀ u ∈ cellsW ps,u.oneCell' = true
 | [],_,u,hu => by cases hu
 | p :: ps,h,u,hu => by
  rcases List.mem_append.1 hu with hu | hu
  ·simp only [rowW,List.mem_cons,List.not_mem_nil,or_false] at hu;rcases hu with rfl | rfl | rfl | rfl | rfl <;> first | rfl | exact h p (List.mem_cons_self ..)
  ·exact onesW (fun q hq => h q (List.mem_cons_of_mem _ hq)) u hu
theorem onesR:∀ {ps:List (Value × Re)},(∀ p ∈ ps,p.1.oneCell' = true) → ∀ u ∈ cellsR ps,u.oneCell' = true
 | [],_,u,hu => by cases hu
 | p :: ps,h,u,hu => by
  rcases List.mem_append.1 hu with hu | hu
  ·simp only [rowR,List.mem_cons,List.not_mem_nil,or_false] at hu;rcases hu with rfl | rfl | rfl <;> first | rfl | exact h p (List.mem_cons_self ..)
  ·exact onesR (fun q hq => h q (List.mem_cons_of_mem _ hq)) u hu
theorem zqk3 {k:IntKind} {w:World} {v:Value} {l:List Int} (h:Ints k w v l):v.oneCell' = true:=by
 obtain ⟨a,c,rfl,-⟩:=h; rfl
structure Ow (w wr:World) (c:Ce) (I N:Value) (ps:List (Value × Wh)) (qs:List (Value × Re)) (a b:Nat):Prop where
 bel:Below w.heap.size w wr
 box:wr.heap[w.heap.size]? = some (.cells (boxV c.key c.cnt I N) 38 (0,0))
 res:wr.heap[w.heap.size + 1]? = some (.cells (boxV 0 0 (.slice none 0 0) (.slice none 0 0)) 38 (0,0))
 i:wr.ownsRow (w.heap.size + 2) 85 5 I ps.length (cellsW ps)
 n:wr.ownsRow (w.heap.size + 2) 90 3 N qs.length (cellsR qs)
 pi:ps.map Prod.snd = c.is
 pn:qs.map Prod.snd = c.ns
 di:∀ k (hk:k < ps.length),(k < a → wr.ownsRow (w.heap.size + 2) 27 1 ps[k].1 ps[k].2.sq.length (ps[k].2.sq.map (Value.int .u32))) ∧ (a ≤ k → Ints .u32 w ps[k].1 ps[k].2.sq)
 dn:∀ k (hk:k < qs.length),(k < b → wr.ownsRow (w.heap.size + 2) 5 1 qs[k].1 qs[k].2.sum.length (qs[k].2.sum.map (Value.int .u8))) ∧ (b ≤ k → Ints .u8 w qs[k].1 qs[k].2.sum)
theorem Ow.below {w wr w1:World} {c:Ce} {I N:Value} {ps:List (Value × Wh)} {qs:List (Value × Re)} {a b:Nat} (h:Ow w wr c I N ps qs a b) (hb:Below wr.heap.size wr w1):Ow w w1 c I N ps qs a b :=
 ⟨zqaa h.bel hb,(hb.block _ (Array.getElem?_eq_some_iff.1 h.box).1).trans h.box,(hb.block _ (Array.getElem?_eq_some_iff.1 h.res).1).trans h.res,zqaj h.i hb,zqaj h.n hb,h.pi,h.pn,fun k hk => ⟨fun q => zqaj ((h.di k hk).1 q) hb,(h.di k hk).2⟩,fun k hk => ⟨fun q => zqaj ((h.dn k hk).1 q) hb,(h.dn k hk).2⟩⟩
theorem zqle {w:World} {B E sz n g cap:Nat} {xs:List Value} (h:w.ownsRow B E sz (.slice (some ⟨g,0,none⟩) n cap) n xs):B ≤ g ∧ ∃ cur,w.heap[g]? = some (.cells cur E (0,0)):=by
 rcases h.2 with ⟨e,-⟩ | ⟨g',cap',cur,e,h2,h3,-⟩
 ·cases e
 ·injection e with e1 e2 e3;injection e1 with e1;injection e1 with e1;subst e1;exact ⟨h2,cur,h3⟩
theorem Ow.setW {w wr:World} {c:Ce} {g cap:Nat} {N q:Value} {ps:List (Value × Wh)} {qs:List (Value × Re)} {a b:Nat} (h:Ow w wr c (.slice (some ⟨g,0,none⟩) ps.length cap) N ps qs a b) (ha:a < ps.length)
  (hq:wr.ownsRow (w.heap.size + 2) 27 1 q ps[a].2.sq.length (ps[a].2.sq.map (Value.int .u32))):Ow w (wr.setCell ⟨g,a * 5 + 2,none⟩ q) c (.slice (some ⟨g,0,none⟩) ps.length cap) N (ps.set a (q,ps[a].2)) qs (a + 1) b:=by
 obtain ⟨hg,cur,hc⟩:=zqle h.i;have hset:=(zqci h.i (j:=a * 5 + 2) (by omega) q).1
 rw [zqiy ps a q ha] at hset;refine ⟨h.bel.setCell (show w.heap.size ≤ g by omega) _,?_,?_,by rw [List.length_set]; exact hset,zqah h.n hc (by decide),?_,h.pn,fun k hk => ?_,fun k hk => ⟨fun q => zqah ((h.dn k hk).1 q) hc (by decide),(h.dn k hk).2⟩⟩
 ·have:¬ g = w.heap.size:=by omega
  simp [World.setCell,Array.getElem?_modify,this,h.box]
 ·have:¬ g = w.heap.size + 1:=by omega
  simp [World.setCell,Array.getElem?_modify,this,h.res]
 ·rw [List.map_set];rw [h.pi.symm];apply List.ext_getElem (by simp)
  intro i h1 h2;rw [List.getElem_set]
  split
  ·next e => subst e; simp
  ·rfl
 ·have hk2:k < ps.length:=by simpa using hk
  by_cases e:k = a
  ·subst e;refine ⟨fun _ => ?_,fun q => by omega⟩
   simp only [List.getElem_set_self];exact zqah hq hc (by decide)
  ·have e2:(ps.set a (q,ps[a].2))[k] = ps[k]:=by rw [List.getElem_set_ne (fun x => e x.symm)]
   rw [e2];exact ⟨fun q => zqah ((h.di k hk2).1 (by omega)) hc (by decide),fun q => (h.di k hk2).2 (by omega)⟩
theorem Ow.setR {w wr:World} {c:Ce} {g cap:Nat} {I q:Value} {ps:List (Value × Wh)} {qs:List (Value × Re)} {a b:Nat} (h:Ow w wr c I (.slice (some ⟨g,0,none⟩) qs.length cap) ps qs a b) (hb:b < qs.length)
  (hq:wr.ownsRow (w.heap.size + 2) 5 1 q qs[b].2.sum.length (qs[b].2.sum.map (Value.int .u8))):Ow w (wr.setCell ⟨g,b * 3,none⟩ q) c I (.slice (some ⟨g,0,none⟩) qs.length cap) ps (qs.set b (q,qs[b].2)) a (b + 1):=by
 obtain ⟨hg,cur,hc⟩:=zqle h.n;have hset:=(zqci h.n (j:=b * 3) (by omega) q).1
 rw [zqix qs b q hb] at hset;refine ⟨h.bel.setCell (show w.heap.size ≤ g by omega) _,?_,?_,zqah h.i hc (by decide),by rw [List.length_set]; exact hset,h.pi,?_,fun k hk => ⟨fun q => zqah ((h.di k hk).1 q) hc (by decide),(h.di k hk).2⟩,fun k hk => ?_⟩
 ·have:¬ g = w.heap.size:=by omega
  simp [World.setCell,Array.getElem?_modify,this,h.box]
 ·have:¬ g = w.heap.size + 1:=by omega
  simp [World.setCell,Array.getElem?_modify,this,h.res]
 ·rw [List.map_set];rw [h.pn.symm];apply List.ext_getElem (by simp)
  intro i h1 h2;rw [List.getElem_set]
  split
  ·next e => subst e; simp
  ·rfl
 ·have hk2:k < qs.length:=by simpa using hk
  by_cases e:k = b
  ·subst e;refine ⟨fun _ => ?_,fun q => by omega⟩
   simp only [List.getElem_set_self];exact zqah hq hc (by decide)
  ·have e2:(qs.set b (q,qs[b].2))[k] = qs[k]:=by rw [List.getElem_set_ne (fun x => e x.symm)]
   rw [e2];exact ⟨fun q => zqah ((h.dn k hk2).1 (by omega)) hc (by decide),fun q => (h.dn k hk2).2 (by omega)⟩
theorem Ow.done {w wr:World} {c:Ce} {I N:Value} {ps:List (Value × Wh)} {qs:List (Value × Re)} (h:Ow w wr c I N ps qs ps.length qs.length):CeOwn wr (w.heap.size + 2) I N c :=
 ⟨ps,qs,⟨h.i,fun p hp => by obtain ⟨k,hk,rfl⟩:=List.getElem_of_mem hp; exact (h.di k hk).1 hk⟩,⟨h.n,fun p hp => by obtain ⟨k,hk,rfl⟩:=List.getElem_of_mem hp; exact (h.dn k hk).1 hk⟩,h.pi,h.pn⟩
theorem zqlf (w:World) (c:Ce) (I N:Value):((w.alloc (CeO c I N)).alloc (.cells #[.int .u64 0,.int .i64 0,.slice none 0 0,.slice none 0 0] 38)).heap[w.heap.size]? = some (.cells (boxV c.key c.cnt I N) 38 (0,0)) ∧ ((w.alloc (CeO c I N)).alloc (.cells #[.int .u64 0,.int .i64 0,.slice none 0 0,.slice none 0 0] 38)).heap[w.heap.size + 1]? = some (.cells (boxV 0 0 (.slice none 0 0) (.slice none 0 0)) 38 (0,0)) ∧ Below w.heap.size w ((w.alloc (CeO c I N)).alloc (.cells #[.int .u64 0,.int .i64 0,.slice none 0 0,.slice none 0 0] 38)) ∧ ((w.alloc (CeO c I N)).alloc (.cells #[.int .u64 0,.int .i64 0,.slice none 0 0,.slice none 0 0] 38)).heap.size = w.heap.size + 2:=by
 have e:=heap_alloc_new w (CeO c I N);have e2:=heap_alloc_new (w.alloc (CeO c I N)) (.cells #[.int .u64 0,.int .i64 0,.slice none 0 0,.slice none 0 0] 38);have hs:(w.alloc (CeO c I N)).heap.size = w.heap.size + 1:=by simp
 rw [hs] at e2;exact ⟨((zqab (w.alloc (CeO c I N)) _).block _ (by omega)).trans e,e2,zqaa (zqab _ _) (zqab _ _),by simp⟩
theorem zqw4 {w W w1 w2:World} {c:Ce} {I N v u:Value} {ps:List (Value × Wh)} {qs:List (Value × Re)} (hb:Below w.heap.size w W) (hx:W.heap[w.heap.size]? = some (.cells (boxV c.key c.cnt I N) 38 (0,0))) (hr:W.heap[w.heap.size + 1]? = some (.cells (boxV 0 0 (.slice none 0 0) (.slice none 0 0)) 38 (0,0))) (hs:W.heap.size = w.heap.size + 2)
  (pi:ps.map Prod.snd = c.is) (pn:qs.map Prod.snd = c.ns) (ki:∀ p ∈ ps,Ints .u32 w p.1 p.2.sq) (kn:∀ p ∈ qs,Ints .u8 w p.1 p.2.sum)
  (b1:Below W.heap.size W w1) (o1:w1.ownsRow W.heap.size 85 5 v ps.length (cellsW ps)) (b2:Below w1.heap.size w1 w2) (o2:w2.ownsRow w1.heap.size 90 3 u qs.length (cellsR qs)) :
  Ow w ((w2.setCell ⟨w.heap.size,2,none⟩ v).setCell ⟨w.heap.size,3,none⟩ u) c v u ps qs 0 0:=by
 have hb2:=zqaa b1 b2;have e:=(hb2.block w.heap.size (by omega)).trans hx
 have e3:=zqdz (u:=v) e;have e4:=zqhx (u:=u) e3;have r:=(hb2.block (w.heap.size + 1) (by omega)).trans hr
 refine ⟨((zqaa hb hb2).setCell (Nat.le_refl _) _).setCell (Nat.le_refl _) _,e4,?_,?_,?_,pi,pn,fun k hk => ⟨fun q => by omega,fun _ => ki _ (List.getElem_mem hk)⟩,fun k hk => ⟨fun q => by omega,fun _ => kn _ (List.getElem_mem hk)⟩⟩
 ·simp [World.setCell,Array.getElem?_modify,r]
 ·exact zqah (zqah (zqak (zqaj o1 b2) (by omega)) e (by decide)) e3 (by decide)
 ·exact zqah (zqah (zqak o2 (by have:=b1.size; omega)) e (by decide)) e3 (by decide)
set_option maxHeartbeats 16000000 in
theorem zqw9 (w:World) (c:Ce) (I N:Value) (h:CeM w I N c) (hl:c.is.length ≤ 1000 ∧ c.ns.length ≤ 1000 ∧ (∀ k,k < c.is.length → (wg c.is k).sq.length ≤ 100000) ∧ ∀ k,k < c.ns.length → (rg c.ns k).sum.length ≤ 100000) :
  Calls Tryz.prog 54 #[CeV c I N] w fun e w' => ∃ I' N',e = .returned (CeV c I' N') ∧ CeOwn w' w.heap.size I' N' c ∧ Below w.heap.size w w':=by
 obtain ⟨ps,pi,ki,ni⟩:=h.i.rows;obtain ⟨qs,pn,kn,nn⟩:=h.n.rows;have hpl:ps.length = c.is.length:=by rw [← pi]; simp
 have hql:qs.length = c.ns.length:=by rw [← pn]; simp
 obtain ⟨hx,hr,hb,hs⟩:=zqlf w c I N;have HX:=zh (And.intro hx (And.intro hr (And.intro hb hs)));have HP:=zh (And.intro pi (And.intro pn (And.intro ki kn)));have HLn:=zh (And.intro hl.2.2.1 hl.2.2.2);obtain ⟨pa,pc,rfl⟩:=zqc2 ni;obtain ⟨qa,qc,rfl⟩:=zqc2 nn;have HCW:=zh (fun w1 (hb1:Below w.heap.size w w1) => zqqf w1 _ _ _ (zqb0 ni hb1) (zqfn ps) (onesW fun p hp => zqk3 (ki p hp)) (by omega))
 have HCR:=zh (fun w1 (hb1:Below w.heap.size w w1) => zqqd w1 _ _ _ (zqb0 nn hb1) (zqfm qs) (onesR fun p hp => zqk3 (kn p hp)) (by omega))
 have hps:ps.length ≤ 1000:=by omega
 have hqs:qs.length ≤ 1000:=by omega
 have HCU:=zh (fun w1 q l (hq:Ints .u32 w1 q l) (hl:l.length ≤ 100000) => zqqe w1 q _ _ (zqlb hq) (by simp) (by intro u hu; obtain ⟨x,-,rfl⟩:=List.mem_map.1 hu; rfl) hl)
 have HCB:=zh (fun w1 q l (hq:Ints .u8 w1 q l) (hl:l.length ≤ 100000) => zqqc w1 q _ _ (zqlb hq) (by simp) (by intro u hu; obtain ⟨x,-,rfl⟩:=List.mem_map.1 hu; rfl) hl)
 unfold CloneP at HCW HCR HCU HCB;clear h hl ni nn pi pn ki kn hpl hql hx hr hb hs;go_enter Tryz.func54,Tryz.ntmps54;go_upto_region 1 with fail;generalize (w.alloc (.cells #[.int .u64 c.key,.int .i64 c.cnt,.slice pa ps.length pc,.slice qa qs.length qc] 38)).alloc (.cells #[.int .u64 0,.int .i64 0,.slice none 0 0,.slice none 0 0] 38) = W at *;obtain ⟨⟨x0,x1,x2,x3⟩,xf⟩:=zqac HX.out.1;have xf2:=xf 2;have xf3:=xf 3;have HB0:=zh HX.out.2.2.1;clear x0 x1 xf;go_cut [1,2] from 5 to 12 (fun v1 v2 wx => v1 = .pointer (some ⟨w.heap.size,0,none⟩) ∧ v2 = .pointer (some ⟨w.heap.size + 1,0,none⟩) ∧ ∃ I' N',Hid (Ow w wx c I' N' ps qs 0 0))
 case first =>
  go_region_law (first
   | (go_simp; go_at_call 104; refine (HCW.out _ (by first | exact HB0.out.drew | exact HB0.out)).mono ?_; rintro e w1 ⟨⟨v1,rfl,ho1⟩,hb1⟩; obtain ⟨p1,k1,rfl⟩:=zqae ho1; have hbW:Below W.heap.size W w1:=zqaw hb1; have hoW:w1.ownsRow W.heap.size 85 5 (.slice p1 ps.length k1) ps.length (cellsW ps):=ho1; have HB1:=zh (zqaa HB0.out hbW); have x2':=cell_later hbW x2; have x3':=cell_later hbW x3)
   | (go_simp; go_at_call 105; refine (HCR.out _ HB1.out).mono ?_; rintro e w2 ⟨⟨v2,rfl,ho2⟩,hb2⟩; obtain ⟨p2,k2,rfl⟩:=zqae ho2; have HOw:=zh (zqw4 HB0.out HX.out.1 HX.out.2.1 HX.out.2.2.2 HP.out.1 HP.out.2.1 HP.out.2.2.1 HP.out.2.2.2 hbW hoW hb2 ho2); have y2:=cell_later hb2 x2'; have y3:=cell_later hb2 x3'; have yf:∀ j,w2.frozen? ⟨w.heap.size,j,none⟩ = false:=(zqac (((zqaa hbW hb2).block w.heap.size (Array.getElem?_eq_some_iff.1 HX.out.1).1).trans HX.out.1)).2; have yf2:=yf 2; have yf3:=yf 3))
  all_goals
   go_wp2_with fail;go_meet;exact ⟨rfl,rfl,_,_,HOw⟩
 case rest =>
  obtain ⟨rfl,rfl,I',N',HOw⟩:=hcut;clear x2 x3 xf2 xf3 HCW HCR HB0 HX HP;obtain ⟨ga,gc,rfl⟩:=zqae HOw.out.i;obtain ⟨⟨x0,x1,x2,x3⟩,-⟩:=zqac HOw.out.box;have HL1:=zh (show ps.length = c.is.length by rw [← HOw.out.pi]; simp)
  have HL2:=zh (show qs.length = c.ns.length by rw [← HOw.out.pn]; simp)
  go_wp2_with fail;clear x0 x1 x2 x3;go_loopw [16] (fun iv wr => ∃ (k:Nat) (ps':List (Value × Wh)),k ≤ ps.length ∧ ps'.length = ps.length ∧ iv = .int .i64 k ∧ Hid (Ow w wr c (.slice ga ps'.length gc) N' ps' qs k 0)) (fun iv _ => ps.length - (intOf iv).toNat)
  case atStart => exact ⟨0,ps,Nat.zero_le _,rfl,rfl,HOw⟩
  case round =>
   clear HOw;obtain ⟨k,ps',hk,hpl,rfl,HOw⟩:=hrel
   by_cases hlt:k < ps.length
   ·have hlt':(k:Int) < (ps.length:Int):=by omega
    have hk5:k * 5 + 2 < ps'.length * 5:=by omega
    have hk':k < ps'.length:=by omega
    obtain ⟨g,rfl⟩:∃ g,ga = some ⟨g,0,none⟩:=by
     rcases HOw.out.i.2 with ⟨e,h0⟩ | ⟨g,cap,cur,e,-⟩
     ·omega
     ·injection e with e; exact ⟨g,e⟩
    obtain ⟨⟨x0,x1,x2,x3⟩,-⟩:=zqac HOw.out.box;obtain ⟨-,zf,zc⟩:=zqci HOw.out.i hk5 (.bool false);rw [zqcp ps' k 2 hk' (by decide)] at zc
    have zc2:wr.cell? ⟨g,k * 5 + 2,none⟩ = some ps'[k].1:=zc;have hin:=((HOw.out.di k hk').2 (Nat.le_refl _)).below HOw.out.bel;have hle:ps'[k].2.sq.length ≤ 100000:=by
     have h1:=HLn.out.1 k (by have:=HL1.out; omega)
     have e:wg c.is k = ps'[k].2:=by rw [zqaq (by have:=HL1.out; omega)]; simp [← HOw.out.pi]
     rwa [e] at h1
    have HCk:=zh (fun w1 (hb:Below wr.heap.size wr w1) => HCU.out w1 ps'[k].1 ps'[k].2.sq (hin.below hb) hle)
    have HSt:=zh (fun w1 q (hb:Below wr.heap.size wr w1) (hq:w1.ownsRow wr.heap.size 27 1 q ps'[k].2.sq.length (ps'[k].2.sq.map (Value.int .u32))) => (HOw.out.below hb).setW hk' (zqak hq (show w.heap.size + 2 ≤ wr.heap.size from (Array.getElem?_eq_some_iff.1 HOw.out.res).1)))
    have HPut:=zh (fun w1 (hb:Below wr.heap.size wr w1) => And.intro (zqac (HOw.out.below hb).box).1.2.2.1 (And.intro (zqci (HOw.out.below hb).i hk5 (.bool false)).2.1 ((zqci (HOw.out.below hb).i hk5 (.bool false)).2.2.trans ((zqcp ps' k 2 hk' (by decide)).trans (show _ = some ps'[k].1 from rfl)))))
    obtain ⟨pq,cq,e,-,-⟩:=id hin;rw [e] at zc2 HCk HPut;obtain ⟨z,hz⟩:∃ z,ps'[k].2 = z:=⟨_,rfl⟩
    rw [hz] at zc2 HCk HSt HPut;clear hin hle e zc zf x0 x1 x3 HOw hk5;go_wp2_with fail;go_region_law (first
     | (go_simp; go_at_call 106; refine (HCk.out _ (by first | exact (Below.refl _ _).drew | exact Below.refl _ _)).mono ?_; rintro e w1 ⟨⟨v1,rfl,ho1⟩,hb1⟩; have hbW:Below wr.heap.size wr w1:=zqaw hb1; have hOs:=zh (HSt.out w1 _ hbW ho1); obtain ⟨y2,yf,yc⟩:=HPut.out w1 hbW; obtain ⟨p1,k1,rfl⟩:=zqae ho1))
    all_goals
     go_wp2_with fail;go_roundw
     case rel => exact ⟨k + 1,ps'.set k (Value.slice p1 z.sq.length k1,z),by omega,by simpa using hpl,by go_num,by rw [List.length_set]; exact hOs⟩
     case measure => simp [intOf]; omega
   ·have e:k = ps.length:=by omega
    subst e;have hlt':¬ (ps.length:Int) < (ps.length:Int):=by omega
    obtain ⟨gb,gd,rfl⟩:=zqae HOw.out.n;obtain ⟨⟨x0,x1,x2,x3⟩,-⟩:=zqac HOw.out.box;go_wp2_with fail;have HL3:=zh (show ps'.length = ps.length from hpl);clear x0 x1 x2 x3 HCU hlt' hlt hk;go_loopw [35] (fun iv wr => ∃ (k:Nat) (qs':List (Value × Re)),k ≤ qs.length ∧ qs'.length = qs.length ∧ iv = .int .i64 k ∧ Hid (Ow w wr c (.slice ga ps'.length gc) (.slice gb qs'.length gd) ps' qs' ps.length k)) (fun iv _ => qs.length - (intOf iv).toNat)
    case atStart => exact ⟨0,qs,Nat.zero_le _,rfl,rfl,HOw⟩
    case round =>
     clear HOw;obtain ⟨k,qs',hk,hql,rfl,HOw⟩:=hrel
     by_cases hlt:k < qs.length
     ·have hlt':(k:Int) < (qs.length:Int):=by omega
      have hk3:k * 3 < qs'.length * 3:=by omega
      have hk':k < qs'.length:=by omega
      obtain ⟨g,rfl⟩:∃ g,gb = some ⟨g,0,none⟩:=by
       rcases HOw.out.n.2 with ⟨e,h0⟩ | ⟨g,cap,cur,e,-⟩
       ·omega
       ·injection e with e; exact ⟨g,e⟩
      obtain ⟨⟨x0,x1,x2,x3⟩,-⟩:=zqac HOw.out.box;obtain ⟨-,zf,zc⟩:=zqci HOw.out.n hk3 (.bool false);have hget:(cellsR qs')[k * 3]? = some qs'[k].1:=zqdm qs' k 0 hk' (by decide)
      rw [hget] at zc;have hin:=((HOw.out.dn k hk').2 (Nat.le_refl _)).below HOw.out.bel;have hle:qs'[k].2.sum.length ≤ 100000:=by
       have h1:=HLn.out.2 k (by have:=HL2.out; omega)
       have e:rg c.ns k = qs'[k].2:=by rw [zqap (by have:=HL2.out; omega)]; simp [← HOw.out.pn]
       rwa [e] at h1
      have HCk:=zh (fun w1 (hb:Below wr.heap.size wr w1) => HCB.out w1 qs'[k].1 qs'[k].2.sum (hin.below hb) hle)
      have HSt:=zh (fun w1 q (hb:Below wr.heap.size wr w1) (hq:w1.ownsRow wr.heap.size 5 1 q qs'[k].2.sum.length (qs'[k].2.sum.map (Value.int .u8))) => (HOw.out.below hb).setR hk' (zqak hq (show w.heap.size + 2 ≤ wr.heap.size from (Array.getElem?_eq_some_iff.1 HOw.out.res).1)))
      have HPut:=zh (fun w1 (hb:Below wr.heap.size wr w1) => And.intro (zqac (HOw.out.below hb).box).1.2.2.2 (And.intro (zqci (HOw.out.below hb).n hk3 (.bool false)).2.1 ((zqci (HOw.out.below hb).n hk3 (.bool false)).2.2.trans hget)))
      obtain ⟨pq,cq,e,-,-⟩:=id hin;rw [e] at zc HCk HPut;obtain ⟨z,hz⟩:∃ z,qs'[k].2 = z:=⟨_,rfl⟩
      rw [hz] at zc HCk HSt HPut;clear hin hle e zf x0 x1 x2 HOw hk3 hget;go_wp2_with fail;go_region_law (first
       | (go_simp; go_at_call 107; refine (HCk.out _ (by first | exact (Below.refl _ _).drew | exact Below.refl _ _)).mono ?_; rintro e w1 ⟨⟨v1,rfl,ho1⟩,hb1⟩; have hbW:Below wr.heap.size wr w1:=zqaw hb1; have hOs:=zh (HSt.out w1 _ hbW ho1); obtain ⟨y2,yf,yc⟩:=HPut.out w1 hbW; obtain ⟨p1,k1,rfl⟩:=zqae ho1))
      all_goals
       go_wp2_with fail;go_roundw
       case rel => exact ⟨k + 1,qs'.set k (Value.slice p1 z.sum.length k1,z),by omega,by simpa using hql,by go_num,by rw [List.length_set]; exact hOs⟩
       case measure => simp [intOf]; omega
     ·have e:k = qs.length:=by omega
      subst e;have hlt':¬ (qs.length:Int) < (qs.length:Int):=by omega
      obtain ⟨⟨x0,x1,x2,x3⟩,-⟩:=zqac HOw.out.box;obtain ⟨⟨y0,y1,y2,y3⟩,yf⟩:=zqac HOw.out.res;have HOs:=zh (show Ow w wr c (.slice ga ps'.length gc) (.slice gb qs'.length gd) ps' qs' ps'.length qs'.length by rw [HL3.out,hql]; have:=HOw.out; rw [HL3.out,hql] at this; exact this)
      have hS:=zqan (k':=c.key) (n':=c.cnt) (I':=.slice ga ps'.length gc) (N':=.slice gb qs'.length gd) HOw.out.res;have hB:=zqao (R:=w.heap.size + 1) (k':=c.key) (n':=c.cnt) (I':=.slice ga ps'.length gc) (N':=.slice gb qs'.length gd) HOw.out.bel (by omega)
      obtain ⟨ps2,qs2,hW,hR,e1,e2⟩:=HOs.out.done;have hW2:=zqg7 (k':=c.key) (n':=c.cnt) (I':=.slice ga ps'.length gc) (N':=.slice gb qs'.length gd) HOw.out.res (by decide) (by decide) hW
      have hR2:=zqg6 (k':=c.key) (n':=c.cnt) (I':=.slice ga ps'.length gc) (N':=.slice gb qs'.length gd) HOw.out.res (by decide) (by decide) hR
      unfold set4 at hS hB hW2 hR2;have HSb:=zh hS;have HEn:=zh (And.intro hB (And.intro (hW2.low (B':=w.heap.size) (by omega)) (And.intro (hR2.low (B':=w.heap.size) (by omega)) (And.intro e1 e2))))
      clear hS hB hW hR hW2 hR2 e1 e2 HOs HOw;simp only [HL3.out,hql] at HSb HEn;go_wp2_with fail;obtain ⟨⟨r0,r1,r2,r3⟩,-⟩:=zqac HSb.out;exact bodyPost_ret (v:=CeV c (.slice ga ps.length gc) (.slice gb qs.length gd)) (by simp [results,Tryz.results54,go_sem,r0,r1,r2,r3]) rfl ⟨_,_,rfl,⟨ps2,qs2,HEn.out.2.1,HEn.out.2.2.1,HEn.out.2.2.2.1,HEn.out.2.2.2.2⟩,HEn.out.1⟩
abbrev CZ:Value:=.agg #[.int .u64 0,.int .i64 0,.slice none 0 0,.slice none 0 0]
theorem Tryz.infoCell:(Tryz.prog.info? 38).map (fun i => (i.zero,i.size,i.bytes)) = some (some (.agg #[.int .u64 0,.int .i64 0,.slice none 0 0,.slice none 0 0]),4,64):=by kernel_rfl
theorem zqo5:CZ.cells.size = 4:=by simp [Value.cells]
set_option maxHeartbeats 2000000 in
theorem zqoq (w:World) (v:Value) (l:List Ce) (h:Cells w v l) :
  Calls Tryz.prog 34 #[v] w fun e w' => e = .returned (.bool (risingB l)) ∧ Below w.heap.size w w':=by
 have HC:=zh h;obtain ⟨a,cap,rfl,h1,hmx,-⟩:=h;have HY:=zh (@zqdq l);have HF:=zh (@zqln l);generalize risingB l = R at *;go_enter Tryz.func34,Tryz.ntmps34;go_wp2_with fail;go_loopw [7] (fun i wr => ∃ k:Nat,k ≤ l.length ∧ i = .int .i64 k ∧ Hid (Below w.heap.size w wr) ∧ Hid (∀ j,j + 1 < k → (cg l j).key < (cg l (j + 1)).key)) (fun i _ => l.length - (intOf i).toNat)
 case atStart => exact ⟨0,Nat.zero_le _,rfl,zh (Below.refl _ _),zh (fun j hj => by omega)⟩
 case round =>
  obtain ⟨k,hk,rfl,HB,HJ⟩:=hrel
  by_cases hlk:k < l.length
  ·have hlk':(k:Int) < (l.length:Int):=by omega
   obtain ⟨b,off,rfl,hlt,⟨I,N,hx⟩,I2,N2,hy⟩:=(HC.out.below HB.out).at2 hlk (show k - 1 < l.length by omega)
   obtain ⟨x0,x1,x2,x3,hm⟩:=hx;obtain ⟨⟨ip,ic,rfl⟩,np,nc,rfl⟩:=hm.slices;have hbl:=zqab wr (CeO (cg l k) (.slice ip (cg l k).is.length ic) (.slice np (cg l k).ns.length nc));have HBW:=zh (zqaa HB.out hbl);have y0:=cell_later hbl hy.c0;have ht:=(zqbe wr (cg l k) (.slice ip (cg l k).is.length ic) (.slice np (cg l k).ns.length nc)).reads;obtain ⟨z0,-,-,-⟩:=ht;have HW:=zh (show k ≠ 0 → ¬ (cg l (k - 1)).key < (cg l k).key → R = false from fun h0 hs => HF.out (k - 1) (by omega) (by rw [show k - 1 + 1 = k by omega]; omega))
   have HJ2:=zh (show (k = 0 ∨ (cg l (k - 1)).key < (cg l k).key) → ∀ j,j + 1 < k + 1 → (cg l j).key < (cg l (j + 1)).key from fun h0 j hj => if e:j = k - 1 then by subst e; rcases h0 with h0 | h0; (· omega); (· rw [show k - 1 + 1 = k by omega]; exact h0) else HJ.out j (by omega))
   have hle:Hid (k + 1 ≤ l.length):=zh (by omega)
   have hc2:k ≠ 0 → (0:Int) ≤ (k:Int) - 1:=by omega
   have hc3:(k:Int) - 1 < (l.length:Int):=by omega
   have hc4:wrap64 ((k:Int) - 1) = (k:Int) - 1:=wrap64_in (by omega) (by omega)
   have ek:k ≠ 0 → ((k:Int) - 1).toNat = k - 1:=by omega
   clear hy hlt hbl HB hm;generalize cg l k = c at *;generalize cg l (k - 1) = d at *;obtain ⟨ka,kn,ki,kr⟩:=c;obtain ⟨kb,kn2,ki2,kr2⟩:=d;simp only at x0 x1 x2 x3 y0 z0;generalize ki.length = kil at *;generalize kr.length = krl at *
   by_cases h0:k = 0
   ·subst h0;have HJ3:=zh (HJ2.out (.inl rfl));have hg:decide ((0:Int) < ((0:Nat):Int)) = false:=by simp
    clear y0 hc2 hc3 hc4 ek;simp only [Nat.zero_mul,Nat.add_zero] at x0 x1 x2 x3;go_wp2_with fail;go_quiet (fail);go_wp2_with fail;go_roundw
    case rel => exact ⟨1,hle.out,by go_num,zh (zqa8 _ _ HBW.out _),HJ3⟩
    case measure => simp [intOf]; omega
   ·have hg:decide (0 < k) = true:=decide_eq_true (by omega)
    replace hc2:=hc2 h0;replace ek:=ek h0
    by_cases hs:kb < ka
    ·have HJ3:=zh (HJ2.out (.inr hs));have hd:decide (ka ≤ kb) = false:=decide_eq_false (by omega)
     clear hs;go_wp2_with fail;go_quiet (fail);go_wp2_with fail;go_roundw
     case rel => exact ⟨k + 1,hle.out,by go_num,zh (zqa8 _ _ HBW.out _),HJ3⟩
     case measure => simp [intOf]; omega
    ·have hR:=HW.out h0 hs;subst hR;have hd:decide (ka ≤ kb) = true:=decide_eq_true (by omega)
     clear hs;go_wp2_with fail;go_quiet (fail);go_wp2_with fail;go_ret;exact ⟨rfl,zqa8 _ _ HBW.out _⟩
  ·have hR:R = true:=HY.out.2 fun i hi => HJ.out i (by omega)
   subst hR;go_wp2_with fail;go_ret;exact ⟨rfl,HB.out⟩
theorem zqne (w:World) (x:Int):Calls Tryz.prog 86 #[.int .u64 x] w fun e w' => e = .returned (.bool false) ∧ w = w':=by
 go_enter Tryz.func86,Tryz.ntmps86;go_wp2_with fail;go_ret;exact ⟨rfl,rfl⟩
def cmpN (x y:Int):Int:=if x < y then -1 else if y < x then 1 else 0
theorem zqnc (w:World) (x y:Int):Calls Tryz.prog 47 #[.int .u64 x,.int .u64 y] w fun e w' => e = .returned (.int .i64 (cmpN x y)) ∧ w = w':=by
 have H1:=zh (zqne w x);have H2:=zh (zqne w y);have HR:=zh (show (x < y → cmpN x y = -1) ∧ (¬ x < y → y < x → cmpN x y = 1) ∧ (¬ x < y → ¬ y < x → cmpN x y = 0) from by
  unfold cmpN;exact ⟨fun h => if_pos h,fun h h2 => by rw [if_neg h,if_pos h2],fun h h2 => by rw [if_neg h,if_neg h2]⟩)
 generalize cmpN x y = R at *;go_enter Tryz.func47,Tryz.ntmps47;go_wp2_with fail;refine (H1.out).mono ?_; rintro e w1 ⟨rfl,rfl⟩;go_wp2_with fail;refine (H2.out).mono ?_; rintro e w1 ⟨rfl,rfl⟩
 by_cases h1:x < y
 ·have hR:=HR.out.1 h1;subst hR;go_wp2_with fail;go_ret;exact ⟨rfl,rfl⟩
 ·by_cases h2:y < x
  ·have hR:=HR.out.2.1 (by omega) h2
   subst hR;go_wp2_with fail;go_ret;exact ⟨rfl,rfl⟩
  ·have hR:=HR.out.2.2 (by omega) (by omega)
   subst hR;go_wp2_with fail;go_ret;exact ⟨rfl,rfl⟩
theorem zqrb (w:World) (c:Ce) (I N:Value) (key:Int):Calls Tryz.prog 46 #[CeV c I N,.int .u64 key] w fun e w' => e = .returned (.int .i64 (cmpN c.key key)) ∧ Below w.heap.size w w':=by
 have HB0:=zh (zqab w (CeO c I N));have HX:=zh (zqbe w c I N);have HP:=zh (fun w1 => zqnc w1 c.key key)
 go_enter Tryz.func46,Tryz.ntmps46;go_upto_region 1 with fail;generalize w.alloc (CeO c I N) = W at *;obtain ⟨x0,x1,x2,x3⟩:=HX.out.reads;go_wp2_with fail;refine (HP.out _).mono ?_; rintro e w1 ⟨rfl,rfl⟩;go_wp2_with fail;go_ret;exact ⟨rfl,HB0.out⟩
def FindP (l:List Ce) (key:Int) (n:Nat) (b:Bool):Prop :=
 n ≤ l.length ∧ (∀ j,j < n → (cg l j).key < key) ∧ (∀ j,n ≤ j → j < l.length → key ≤ (cg l j).key) ∧ (b = true ↔ n < l.length ∧ (cg l n).key = key)
theorem zqew {l:List Ce} (h:risingB l = true):∀ i j,i < j → j < l.length → (cg l i).key < (cg l j).key:=by
 intro i j hij hj
 induction j with
 | zero => omega
 | succ j ih =>
  have h1:=zqdq.1 h j hj
  by_cases e:i = j
  ·subst e; exact h1
  ·have:=ih (by omega) (by omega); omega
theorem zqvq (x y:Int):cmpN x y < 0 ↔ x < y:=by
 unfold cmpN
 by_cases h:x < y
 ·rw [if_pos h]; simp [h]
 ·rw [if_neg h]
  by_cases h2:y < x
  ·rw [if_pos h2]; simp; omega
  ·rw [if_neg h2]; simp; omega
theorem zqsl (x y:Int):cmpN x y = 0 ↔ x = y:=by
 unfold cmpN
 by_cases h:x < y
 ·rw [if_pos h]; simp; omega
 ·rw [if_neg h]
  by_cases h2:y < x
  ·rw [if_pos h2]; simp; omega
  ·rw [if_neg h2]; simp; omega
set_option maxHeartbeats 4000000 in
theorem zqot (w:World) (v:Value) (l:List Ce) (key:Int) (h:Cells w v l) (hr:risingB l = true) (hsm:l.length ≤ 4611686018427387903) :
  Calls Tryz.prog 45 #[v,.int .u64 key,.func (.func 46) #[] #[]] w fun e w' => (∃ n b,e = .returned (.tuple #[.int .i64 (n:Nat),.bool b]) ∧ FindP l key n b) ∧ Below w.heap.size w w':=by
 have HC:=zh h;have HF:=zh (fun w1 c I N => zqrb w1 c I N key)
 have HS:=zh (zqew hr);obtain ⟨a,cap,rfl,h1,hmx,-⟩:=h;have HM:=zh hsm;clear hr h1 hmx;go_enter Tryz.func45,Tryz.ntmps45;go_wp2_with fail;go_loopw [9,10] (fun i j wr => ∃ lo hi:Nat,lo ≤ hi ∧ hi ≤ l.length ∧ i = .int .i64 lo ∧ j = .int .i64 hi ∧ Hid (Below w.heap.size w wr) ∧ Hid ((∀ j,j < lo → (cg l j).key < key) ∧ ∀ j,hi ≤ j → j < l.length → key ≤ (cg l j).key)) (fun i j _ => (intOf j).toNat - (intOf i).toNat)
 case atStart => exact ⟨0,l.length,Nat.zero_le _,Nat.le_refl _,rfl,rfl,zh (Below.refl _ _),zh ⟨fun j hj => by omega,fun j h1 h2 => by omega⟩⟩
 case round =>
  obtain ⟨lo,hi,hlo,hhi,rfl,rfl,HB,HJ⟩:=hrel
  by_cases hlk:lo < hi
  ·have hlk':(lo:Int) < (hi:Int):=by omega
   have HL:=zh (And.intro hlo hhi);generalize hmid:(lo + hi) / 2 = mid;have hm1:lo ≤ mid:=by omega
   have hm2:mid < hi:=by omega
   have HMid:=zh (And.intro hm1 (And.intro hm2 (show mid < l.length by omega)))
   obtain ⟨b,off,rfl,hlt,I,N,hx⟩:=(HC.out.below HB.out).at (show mid < l.length by omega)
   have e1:wrap64 ((lo:Int) + hi) = ((lo + hi:Nat):Int):=by rw [wrap64_in (by have:=HM.out; omega) (by have:=HM.out; omega)]; omega
   go_upto_region 5 with fail;have e2:((lo:Int) + (hi:Int)) / 2 = (mid:Int):=by omega
   simp only [e2];have hlm:(mid:Int) < (l.length:Int):=by omega
   have HX:=zh hx.m;have Hlo:=zh (fun (hs:(cg l mid).key < key) => show ∀ j,j < mid + 1 → (cg l j).key < key from fun j hj => if e:j = mid then by subst e; exact hs else by have:=HS.out j mid (by omega) (by omega); omega)
   have Hhi:=zh (fun (hs:¬ (cg l mid).key < key) => show ∀ j,mid ≤ j → j < l.length → key ≤ (cg l j).key from fun j hj hj2 => if e:j = mid then by subst e; omega else by have:=HS.out mid j (by omega) hj2; omega)
   obtain ⟨x0,x1,x2,x3,-⟩:=hx;clear e1 e2 hmid hm1 hm2 hlo hhi hlk hlk' hlt;generalize cg l mid = c at *;go_wp2_with fail;refine (HF.out _ c I N).mono ?_; rintro e w1 ⟨rfl,hb⟩;have HB1:=zh (zqaa HB.out hb);clear hb;have hc:=zqvq c.key key;generalize cmpN c.key key = r at *
   by_cases hs:c.key < key
   ·have hd:decide (r < 0) = true:=decide_eq_true (hc.2 hs);have HJ2:=zh (Hlo.out hs);clear hs hc;go_wp2_with fail;go_roundw
    case rel => exact ⟨mid + 1,hi,by have:=HMid.out; omega,HL.out.2,by go_num,rfl,HB1,zh ⟨HJ2.out,HJ.out.2⟩⟩
    case measure => have:=HMid.out; simp [intOf]; omega
   ·have hd:decide (r < 0) = false:=decide_eq_false (fun q => hs (hc.1 q))
    have HJ2:=zh (Hhi.out (by omega))
    clear hs hc;go_wp2_with fail;go_roundw
    case rel => exact ⟨lo,mid,HMid.out.1,by have:=HMid.out; omega,rfl,by go_num,HB1,zh ⟨HJ.out.1,HJ2.out⟩⟩
    case measure => have:=HMid.out; simp [intOf]; omega
  ·obtain rfl:lo = hi:=by omega
   clear hlk hlo;have HJx:=zh HJ.out
   by_cases hn:lo < l.length
   ·have hn':(lo:Int) < (l.length:Int):=by omega
    have hg:decide (lo < l.length) = true:=decide_eq_true hn;obtain ⟨b,off,rfl,hlt,I,N,hx⟩:=(HC.out.below HB.out).at hn;obtain ⟨x0,x1,x2,x3,-⟩:=hx;have HY:=zh (fun b (hb:b = true ↔ (cg l lo).key = key) => show FindP l key lo b from ⟨by omega,HJx.out.1,HJx.out.2,by rw [hb]; exact ⟨fun q => ⟨hn,q⟩,fun q => q.2⟩⟩)
    clear hlt HJ HJx;generalize cg l lo = c at *;go_wp2_with fail;refine (HF.out _ c I N).mono ?_; rintro e w1 ⟨rfl,hb⟩;have HB1:=zh (zqaa HB.out hb);clear hb;have hc:=zh (zqsl c.key key);generalize cmpN c.key key = r at *;go_wp2_with fail;go_ret2;exact ⟨⟨lo,_,rfl,HY.out _ (by simp [hc.out])⟩,HB1.out⟩
   ·obtain rfl:lo = l.length:=by omega
    have hg:decide (l.length < l.length) = false:=decide_eq_false (Nat.lt_irrefl _);have HY:=zh (show FindP l key l.length false from ⟨Nat.le_refl _,HJx.out.1,HJx.out.2,⟨fun q => (by cases q),fun q => absurd q.1 (Nat.lt_irrefl _)⟩⟩)
    clear HJ HJx hn;go_wp2_with fail;go_ret2;exact ⟨⟨_,_,rfl,HY.out⟩,HB.out⟩
theorem zqt8 (w:World) (v:Value) (l:List Ce) (key:Int) (h:Cells w v l) (hr:risingB l = true) (hsm:l.length ≤ 4611686018427387903) :
  Calls Tryz.prog 20 #[v,.int .u64 key] w fun e w' => (∃ n b,e = .returned (.tuple #[.int .i64 (n:Nat),.bool b]) ∧ FindP l key n b) ∧ Below w.heap.size w w':=by
 have HF:=zh (zqot w v l key h hr hsm);clear h hr hsm;go_enter Tryz.func20,Tryz.ntmps20;go_wp2_with fail;refine (HF.out).mono ?_; rintro e w1 ⟨⟨n,b,rfl,hp⟩,hb⟩;have HP:=zh hp;have HB:=zh hb;clear hp hb;go_wp2_with fail;go_ret2;exact ⟨⟨n,b,rfl,HP.out⟩,HB.out⟩
end Go.Proofs.YtmnbljijnbhghaaGreatDoor
