/- Contracts that the law leans on: Aggd Agge Whole Aggj. -/
import Derived.Deep.AppendLies
import Derived.WalkKit
import Derived.WalkSpells
import Derived.WalkLawsBesides
import Derived.Deep.QuietTactic
import Derived.BigQuiet
import Derived.Lib.Hide
import Derived.Test.YtmnbljijnbhghaaGreatDoorProg
import Derived.Test.YtmnbljijnbhghaaGreatDoorPt02
import Derived.Test.YtmnbljijnbhghaaGreatDoorPt10
import Derived.Test.YtmnbljijnbhghaaGreatDoorPt12
import Derived.Test.YtmnbljijnbhghaaGreatDoorPt13
import Derived.Test.YtmnbljijnbhghaaGreatDoorPt16
namespace Go.Proofs.YtmnbljijnbhghaaGreatDoor
set_option maxRecDepth 100000
open Go.RowKit
set_option linter.unusedVariables false
theorem Tryz.infoWhole:(Tryz.prog.info? 85).map (fun i => (i.zero,i.size,i.bytes)) = some (some (.agg #[.int .i64 0,.int .i64 0,.slice none 0 0,.int .i64 0,.int .i64 0]),5,56):=by kernel_rfl
theorem Tryz.infoReal:(Tryz.prog.info? 90).map (fun i => (i.zero,i.size,i.bytes)) = some (some (.agg #[.slice none 0 0,.float .f64 0,.float .f64 0]),3,40):=by kernel_rfl
theorem zqcw:(Value.agg #[.int .i64 0,.int .i64 0,.slice none 0 0,.int .i64 0,.int .i64 0]).cells.size = 5:=by simp [Value.cells]
theorem zqda:(Value.agg #[.slice none 0 0,.float .f64 0,.float .f64 0]).cells.size = 3:=by simp [Value.cells]
abbrev rowW (q:Value) (x:Wh):List Value:=[.int .i64 x.sum,.int .i64 x.abs,q,.int .i64 x.mn,.int .i64 x.mx]
abbrev rowR (q:Value) (x:Re):List Value:=[q,.float .f64 x.mn,.float .f64 x.mx]
def cellsW:List (Value × Wh) → List Value
 | [] => []
 | p :: ps => rowW p.1 p.2 ++ cellsW ps
def cellsR:List (Value × Re) → List Value
 | [] => []
 | p :: ps => rowR p.1 p.2 ++ cellsR ps
theorem zqfn:∀ ps,(cellsW ps).length = ps.length * 5
 | [] => rfl
 | p :: ps => by simp [cellsW,zqfn ps]; omega
theorem zqfm:∀ ps,(cellsR ps).length = ps.length * 3
 | [] => rfl
 | p :: ps => by simp [cellsR,zqfm ps]; omega
theorem zqhk (q:Value) (x:Wh):∀ ps,cellsW (ps ++ [(q,x)]) = cellsW ps ++ rowW q x
 | [] => by simp [cellsW]
 | p :: ps => by rw [List.cons_append,cellsW,cellsW,zqhk q x ps]; simp
theorem zqhj (q:Value) (x:Re):∀ ps,cellsR (ps ++ [(q,x)]) = cellsR ps ++ rowR q x
 | [] => by simp [cellsR]
 | p :: ps => by rw [List.cons_append,cellsR,cellsR,zqhj q x ps]; simp
theorem zqcp:∀ (ps:List (Value × Wh)) (i j:Nat),(hi:i < ps.length) → j < 5 → (cellsW ps)[i * 5 + j]? = (rowW (ps[i]).1 (ps[i]).2)[j]?
 | p :: ps,0,j,hi,hj => by
  rw [cellsW,List.getElem?_append_left (by simp; omega)]
  simp
 | p :: ps,i + 1,j,hi,hj => by
  have ih:=zqcp ps i j (by simpa using hi) hj
  rw [cellsW,List.getElem?_append_right (by simp; omega)]
  have e:(i + 1) * 5 + j - (rowW p.1 p.2).length = i * 5 + j:=by simp; omega
  rw [e,ih]; rfl
theorem zqdm:∀ (ps:List (Value × Re)) (i j:Nat),(hi:i < ps.length) → j < 3 → (cellsR ps)[i * 3 + j]? = (rowR (ps[i]).1 (ps[i]).2)[j]?
 | p :: ps,0,j,hi,hj => by
  rw [cellsR,List.getElem?_append_left (by simp; omega)]
  simp
 | p :: ps,i + 1,j,hi,hj => by
  have ih:=zqdm ps i j (by simpa using hi) hj
  rw [cellsR,List.getElem?_append_right (by simp; omega)]
  have e:(i + 1) * 3 + j - (rowR p.1 p.2).length = i * 3 + j:=by simp; omega
  rw [e,ih]; rfl
theorem zqbm {w w':World} {B B' E E' sz sz' n n':Nat} {v v':Value} {xs xs':List Value} (h:w.ownsRow B E sz v n xs) (h':w.ownsRow B' E' sz' v' n' xs') (hE:E ≠ E') (hg:w.grownBy w' v'.ownBlock):w'.ownsRow B E sz v n xs:=by
 refine h.kept hg ?_;rcases h.2 with ⟨rfl,-⟩ | ⟨g,cap,cur,rfl,-,h3,-⟩
 ·exact .inl rfl
 ·right;rcases h'.2 with ⟨rfl,-⟩ | ⟨g',cap',cur',rfl,-,h3',-⟩
  ·simp [Value.ownBlock]
  ·intro e;have e2:g = g':=by simpa [Value.ownBlock] using e
   subst e2;rw [h3] at h3';have:=Option.some.inj h3';injection this with _ e3 _;exact hE e3
theorem zqaj {w w':World} {B E sz n:Nat} {v:Value} {xs:List Value} (h:w.ownsRow B E sz v n xs) (hb:Below w.heap.size w w'):w'.ownsRow B E sz v n xs:=by
 refine ⟨h.1,?_⟩;rcases h.2 with h2 | ⟨g,cap,cur,e,h3,h4,h5⟩
 ·exact .inl h2
 ·exact .inr ⟨g,cap,cur,e,h3,by rw [hb.block g (Array.getElem?_eq_some_iff.1 h4).1]; exact h4,h5⟩
theorem zqak {w:World} {B B' E sz n:Nat} {v:Value} {xs:List Value} (h:w.ownsRow B E sz v n xs) (hb:B' ≤ B):w.ownsRow B' E sz v n xs:=by
 refine ⟨h.1,?_⟩;rcases h.2 with h0 | ⟨g,cap,cur,h1,h2,h3⟩
 ·exact .inl h0
 ·exact .inr ⟨g,cap,cur,h1,Nat.le_trans hb h2,h3⟩
def WsOwn (w:World) (B:Nat) (v:Value) (ps:List (Value × Wh)):Prop:=w.ownsRow B 85 5 v ps.length (cellsW ps) ∧ ∀ p ∈ ps,w.ownsRow B 27 1 p.1 p.2.sq.length (p.2.sq.map (Value.int .u32))
def RsOwn (w:World) (B:Nat) (v:Value) (ps:List (Value × Re)):Prop:=w.ownsRow B 90 3 v ps.length (cellsR ps) ∧ ∀ p ∈ ps,w.ownsRow B 5 1 p.1 p.2.sum.length (p.2.sum.map (Value.int .u8))
theorem WsOwn.nil (w:World) (B:Nat):WsOwn w B (.slice none 0 0) []:=⟨⟨by simp [cellsW],.inl ⟨rfl,rfl⟩⟩,fun p hp => by cases hp⟩
theorem RsOwn.nil (w:World) (B:Nat):RsOwn w B (.slice none 0 0) []:=⟨⟨by simp [cellsR],.inl ⟨rfl,rfl⟩⟩,fun p hp => by cases hp⟩
theorem WsOwn.below {w w':World} {B:Nat} {v:Value} {ps:List (Value × Wh)} (h:WsOwn w B v ps) (hb:Below w.heap.size w w'):WsOwn w' B v ps:=⟨zqaj h.1 hb,fun p hp => zqaj (h.2 p hp) hb⟩
theorem RsOwn.below {w w':World} {B:Nat} {v:Value} {ps:List (Value × Re)} (h:RsOwn w B v ps) (hb:Below w.heap.size w w'):RsOwn w' B v ps:=⟨zqaj h.1 hb,fun p hp => zqaj (h.2 p hp) hb⟩
theorem WsOwn.low {w:World} {B B':Nat} {v:Value} {ps:List (Value × Wh)} (h:WsOwn w B v ps) (hb:B' ≤ B):WsOwn w B' v ps:=⟨zqak h.1 hb,fun p hp => zqak (h.2 p hp) hb⟩
theorem RsOwn.low {w:World} {B B':Nat} {v:Value} {ps:List (Value × Re)} (h:RsOwn w B v ps) (hb:B' ≤ B):RsOwn w B' v ps:=⟨zqak h.1 hb,fun p hp => zqak (h.2 p hp) hb⟩
theorem WsOwn.push {w w':World} {B:Nat} {v v' q:Value} {x:Wh} {ps:List (Value × Wh)} (h:WsOwn w B v ps) (hq:w.ownsRow B 27 1 q x.sq.length (x.sq.map (Value.int .u32)))
  (hown:w'.ownsRow B 85 5 v' (ps.length + 1) (cellsW ps ++ rowW q x)) (hg:w.grownBy w' v.ownBlock):WsOwn w' B v' (ps ++ [(q,x)]):=by
 refine ⟨by rw [zqhk,List.length_append]; exact hown,fun p hp => ?_⟩
 rcases List.mem_append.1 hp with hp | hp
 ·exact zqbm (h.2 p hp) h.1 (by decide) hg
 ·obtain rfl:p = (q,x):=by simpa using hp
  exact zqbm hq h.1 (by decide) hg
theorem RsOwn.push {w w':World} {B:Nat} {v v' q:Value} {x:Re} {ps:List (Value × Re)} (h:RsOwn w B v ps) (hq:w.ownsRow B 5 1 q x.sum.length (x.sum.map (Value.int .u8)))
  (hown:w'.ownsRow B 90 3 v' (ps.length + 1) (cellsR ps ++ rowR q x)) (hg:w.grownBy w' v.ownBlock):RsOwn w' B v' (ps ++ [(q,x)]):=by
 refine ⟨by rw [zqhj,List.length_append]; exact hown,fun p hp => ?_⟩
 rcases List.mem_append.1 hp with hp | hp
 ·exact zqbm (h.2 p hp) h.1 (by decide) hg
 ·obtain rfl:p = (q,x):=by simpa using hp
  exact zqbm hq h.1 (by decide) hg
theorem WsOwn.apart {w w':World} {B B' E sz n:Nat} {v u:Value} {ps:List (Value × Wh)} {xs:List Value} (h:WsOwn w B v ps) (ho:w.ownsRow B' E sz u n xs) (h1:85 ≠ E) (h2:27 ≠ E) (hg:w.grownBy w' u.ownBlock):WsOwn w' B v ps :=
 ⟨zqbm h.1 ho h1 hg,fun p hp => zqbm (h.2 p hp) ho h2 hg⟩
theorem WsOwn.wholes {w:World} {B:Nat} {v:Value} {ps:List (Value × Wh)} (h:WsOwn w B v ps):Wholes w v (ps.map Prod.snd):=by
 obtain ⟨ho,hq⟩:=h;have ho2:=ho;rcases ho.2 with ⟨rfl,h0⟩ | ⟨g,cap,cur,rfl,h2,h3,h4,h5,-⟩
 ·obtain rfl:ps = []:=List.length_eq_zero_iff.1 h0;exact ⟨none,0,rfl,by simp,by simp,.inl rfl⟩
 ·refine ⟨some ⟨g,0,none⟩,cap,by simp,by simpa using h4,by unfold maxLen at h5; simp; omega,.inr ⟨g,0,rfl,(Array.getElem?_eq_some_iff.1 h3).1,fun i hi => ?_⟩⟩
  have hi:i < ps.length:=by simpa using hi
  have hc:=fun j (hj:j < 5) => (World.ownsRow.cellAt ho2 (i * 5 + j) (by omega)).trans (zqcp ps i j hi hj)
  have hx:wg (ps.map Prod.snd) i = (ps[i]).2:=by rw [zqaq (by simpa using hi)]; simp
  refine ⟨(ps[i]).1,?_⟩;rw [hx,Nat.zero_add];exact ⟨by simpa using hc 0 (by decide),by simpa using hc 1 (by decide),by simpa using hc 2 (by decide),by simpa using hc 3 (by decide),by simpa using hc 4 (by decide),Ints.own (hq _ (List.getElem_mem hi))⟩
theorem RsOwn.reals {w:World} {B:Nat} {v:Value} {ps:List (Value × Re)} (h:RsOwn w B v ps):Reals w v (ps.map Prod.snd):=by
 obtain ⟨ho,hq⟩:=h;have ho2:=ho;rcases ho.2 with ⟨rfl,h0⟩ | ⟨g,cap,cur,rfl,h2,h3,h4,h5,-⟩
 ·obtain rfl:ps = []:=List.length_eq_zero_iff.1 h0;exact ⟨none,0,rfl,by simp,by simp,.inl rfl⟩
 ·refine ⟨some ⟨g,0,none⟩,cap,by simp,by simpa using h4,by unfold maxLen at h5; simp; omega,.inr ⟨g,0,rfl,(Array.getElem?_eq_some_iff.1 h3).1,fun i hi => ?_⟩⟩
  have hi:i < ps.length:=by simpa using hi
  have hc:=fun j (hj:j < 3) => (World.ownsRow.cellAt ho2 (i * 3 + j) (by omega)).trans (zqdm ps i j hi hj)
  have hx:rg (ps.map Prod.snd) i = (ps[i]).2:=by rw [zqap (by simpa using hi)]; simp
  refine ⟨(ps[i]).1,?_⟩;rw [hx,Nat.zero_add];exact ⟨by simpa using hc 0 (by decide),by simpa using hc 1 (by decide),by simpa using hc 2 (by decide),Ints.own (hq _ (List.getElem_mem hi))⟩
structure JW (x y z:Wh):Prop where
 f1:fitB (x.sum + y.sum) = true
 f2:fitB (x.abs + y.abs) = true
 sum:z.sum = x.sum + y.sum
 abs:z.abs = x.abs + y.abs
 wd:Wd z.sq
 ty:Tidy z.sq
 sq:wv z.sq = wv x.sq + wv y.sq
 mn:z.mn = min x.mn y.mn
 mx:z.mx = max x.mx y.mx
structure JR (x y z:Re):Prop where
 e1:errN x.sum = 0
 e2:errN y.sum = 0
 ft:Fits (readT x.sum + readT y.sum)
 sum:IsEnc (readF x.sum ||| readF y.sum) (readT x.sum + readT y.sum) z.sum
 mn:z.mn = if lessB y.mn x.mn then y.mn else x.mn
 mx:z.mx = if lessB x.mx y.mx then y.mx else x.mx
theorem JW.same {x y z z':Wh} (h:JW x y z) (h':JW x y z'):z = z':=by
 obtain ⟨a1,b1,c1,d1,e1⟩:=z;obtain ⟨a2,b2,c2,d2,e2⟩:=z';have h1:=h.sum.trans h'.sum.symm;have h2:=h.abs.trans h'.abs.symm;have h3:=zqbb h.wd h'.wd h.ty h'.ty (h.sq.trans h'.sq.symm);have h4:=h.mn.trans h'.mn.symm;have h5:=h.mx.trans h'.mx.symm;simp only at h1 h2 h3 h4 h5;subst h1 h2 h3 h4 h5
 rfl
theorem JR.same {x y z z':Re} (h:JR x y z) (h':JR x y z'):z = z':=by
 obtain ⟨a1,b1,c1⟩:=z;obtain ⟨a2,b2,c2⟩:=z';have h1:=h.sum.unique h'.sum;have h2:=h.mn.trans h'.mn.symm;have h3:=h.mx.trans h'.mx.symm;simp only at h1 h2 h3;subst h1 h2 h3
 rfl
def okW (x y:Wh):Bool:=fitB (x.sum + y.sum) && fitB (x.abs + y.abs)
def rErr (x y:Re):Nat:=if errN x.sum = 0 ∧ errN y.sum = 0 then if bitsZ ((readT x.sum + readT y.sum).natAbs:Int) ≤ 2240 then 0 else 10 else 13
def firstE (f:Nat → Nat):Nat → Nat
 | 0 => 0
 | n + 1 => if firstE f n = 0 then f n else firstE f n
theorem zqdo {f:Nat → Nat}:∀ n,(∀ k,k < n → f k = 0) → firstE f n = 0
 | 0,_ => rfl
 | n + 1,h => by
  unfold firstE;rw [if_pos (zqdo n fun k hk => h k (by omega))]
  exact h n (by omega)
theorem zqh1 {f:Nat → Nat} {k:Nat} (h:∀ j,j < k → f j = 0) (hk:f k ≠ 0):∀ n,k < n → firstE f n = f k
 | n + 1,hn => by
  unfold firstE
  by_cases e:k = n
  ·subst e;rw [if_pos (zqdo k h)]
  ·have ih:=zqh1 h hk n (by omega)
   rw [if_neg (by rw [ih]; exact hk),ih]
def errJ (a b:Ce):Nat:=if a.key = b.key ∧ a.is.length = b.is.length ∧ a.ns.length = b.ns.length then if fitB (a.cnt + b.cnt) = true ∧ ∀ k,k < a.is.length → okW (wg a.is k) (wg b.is k) = true then firstE (fun k => rErr (rg a.ns k) (rg b.ns k)) a.ns.length else 10 else 1
structure JC (a b c:Ce):Prop where
 key:c.key = a.key
 cnt:c.cnt = a.cnt + b.cnt
 li:c.is.length = a.is.length
 ln:c.ns.length = a.ns.length
 is:∀ k,k < a.is.length → JW (wg a.is k) (wg b.is k) (wg c.is k)
 ns:∀ k,k < a.ns.length → JR (rg a.ns k) (rg b.ns k) (rg c.ns k)
def CeOwn (w:World) (B:Nat) (I M:Value) (c:Ce):Prop:=∃ ps qs,WsOwn w B I ps ∧ RsOwn w B M qs ∧ ps.map Prod.snd = c.is ∧ qs.map Prod.snd = c.ns
theorem CeOwn.mem {w:World} {B:Nat} {I M:Value} {c:Ce} (h:CeOwn w B I M c):CeM w I M c:=by
 obtain ⟨ps,qs,h1,h2,h3,h4⟩:=h;exact ⟨h3 ▸ h1.wholes,h4 ▸ h2.reals⟩
theorem CeOwn.below {w w':World} {B:Nat} {I M:Value} {c:Ce} (h:CeOwn w B I M c) (hb:Below w.heap.size w w'):CeOwn w' B I M c:=by
 obtain ⟨ps,qs,h1,h2,h3,h4⟩:=h;exact ⟨ps,qs,h1.below hb,h2.below hb,h3,h4⟩
theorem CeOwn.low {w:World} {B B':Nat} {I M:Value} {c:Ce} (h:CeOwn w B I M c) (hb:B' ≤ B):CeOwn w B' I M c:=by
 obtain ⟨ps,qs,h1,h2,h3,h4⟩:=h;exact ⟨ps,qs,h1.low hb,h2.low hb,h3,h4⟩
theorem CeOwn.slices {w:World} {B:Nat} {I M:Value} {c:Ce} (h:CeOwn w B I M c):(∃ a k,I = .slice a c.is.length k) ∧ ∃ a k,M = .slice a c.ns.length k:=h.mem.slices
def ce0:Ce:=⟨0,0,[],[]⟩
def RJ14 (a b:Ce) (w:World) (e:Ending) (w':World):Prop :=
 ∃ c I N,e = .returned (.tuple #[CeV c I N,.int .i64 (errJ a b)]) ∧ CeOwn w' w.heap.size I N c ∧ (errJ a b = 0 → JC a b c) ∧ (errJ a b ≠ 0 → c = ce0) ∧ Below w.heap.size w w'
theorem zqfb (w:World):CeM w (.slice none 0 0) (.slice none 0 0) ce0:=⟨⟨none,0,rfl,by simp [ce0],by simp [ce0],.inl rfl⟩,⟨none,0,rfl,by simp [ce0],by simp [ce0],.inl rfl⟩⟩
theorem zqx7 (w:World) (B:Nat):CeOwn w B (.slice none 0 0) (.slice none 0 0) ce0:=⟨[],[],WsOwn.nil w B,RsOwn.nil w B,rfl,rfl⟩
theorem rj_no {a b:Ce} {w w':World} {k:Nat} (h:errJ a b = k) (hk:k ≠ 0) (hb:Below w.heap.size w w'):RJ14 a b w (.returned (.tuple #[CeV ce0 (.slice none 0 0) (.slice none 0 0),.int .i64 k])) w' :=
 ⟨ce0,_,_,by rw [h],zqx7 w' _,fun e => absurd (h.symm.trans e) hk,fun _ => rfl,hb⟩
theorem zqfi {w w':World} {C B E sz n:Nat} {T:TypeId} {cs:Array Value} {u:Value} {xs:List Value} (h:w.heap[C]? = some (.cells cs T (0,0))) (ho:w.ownsRow B E sz u n xs) (hT:T ≠ E) (hg:w.grownBy w' u.ownBlock):w'.heap[C]? = some (.cells cs T (0,0)):=by
 rw [hg.block C (Array.getElem?_eq_some_iff.1 h).1 ?_]
 ·exact h
 ·rcases ho.2 with ⟨rfl,-⟩ | ⟨g,cap,cur,rfl,-,h3,-⟩
  ·simp [Value.ownBlock]
  ·intro e;have e2:g = C:=by simpa [Value.ownBlock] using e.symm
   subst e2;rw [h] at h3;have:=Option.some.inj h3;injection this with _ e3 _;exact hT e3
theorem zqah {w:World} {C j B E sz n:Nat} {T:TypeId} {cs:Array Value} {u v:Value} {xs:List Value} (ho:w.ownsRow B E sz v n xs) (h:w.heap[C]? = some (.cells cs T (0,0))) (hT:T ≠ E):(w.setCell ⟨C,j,none⟩ u).ownsRow B E sz v n xs:=by
 refine ownsRow_setCell_other ho ?_ u;rcases ho.2 with ⟨rfl,-⟩ | ⟨g,cap,cur,rfl,-,h3,-⟩
 ·simp [Value.ownBlock]
 ·intro e;have e2:g = C:=by simpa [Value.ownBlock] using e
  subst e2;rw [h] at h3;have:=Option.some.inj h3;injection this with _ e3 _;exact hT e3
theorem WsOwn.setbox {w:World} {C j B:Nat} {T:TypeId} {cs:Array Value} {u v:Value} {ps:List (Value × Wh)} (h:WsOwn w B v ps) (hC:w.heap[C]? = some (.cells cs T (0,0))) (h1:T ≠ 85) (h2:T ≠ 27):WsOwn (w.setCell ⟨C,j,none⟩ u) B v ps :=
 ⟨zqah h.1 hC h1,fun p hp => zqah (h.2 p hp) hC h2⟩
theorem RsOwn.setbox {w:World} {C j B:Nat} {T:TypeId} {cs:Array Value} {u v:Value} {ps:List (Value × Re)} (h:RsOwn w B v ps) (hC:w.heap[C]? = some (.cells cs T (0,0))) (h1:T ≠ 90) (h2:T ≠ 5):RsOwn (w.setCell ⟨C,j,none⟩ u) B v ps :=
 ⟨zqah h.1 hC h1,fun p hp => zqah (h.2 p hp) hC h2⟩
abbrev boxV (k n:Int) (I N:Value):Array Value:=#[.int .u64 k,.int .i64 n,I,N]
theorem zqdz {w:World} {C:Nat} {k n:Int} {I N u:Value} {T:TypeId} (h:w.heap[C]? = some (.cells (boxV k n I N) T (0,0))):(w.setCell ⟨C,2,none⟩ u).heap[C]? = some (.cells (boxV k n u N) T (0,0)):=by
 simp [World.setCell,Array.getElem?_modify,h]
theorem zqhx {w:World} {C:Nat} {k n:Int} {I N u:Value} {T:TypeId} (h:w.heap[C]? = some (.cells (boxV k n I N) T (0,0))):(w.setCell ⟨C,3,none⟩ u).heap[C]? = some (.cells (boxV k n I u) T (0,0)):=by
 simp [World.setCell,Array.getElem?_modify,h]
theorem zqac {w:World} {C:Nat} {k n:Int} {I N:Value} {T:TypeId} (h:w.heap[C]? = some (.cells (boxV k n I N) T (0,0))):(w.cell? ⟨C,0,none⟩ = some (.int .u64 k) ∧ w.cell? ⟨C,1,none⟩ = some (.int .i64 n) ∧ w.cell? ⟨C,2,none⟩ = some I ∧ w.cell? ⟨C,3,none⟩ = some N) ∧ ∀ j,w.frozen? ⟨C,j,none⟩ = false:=by
 refine ⟨⟨by simp [World.cell?,h],by simp [World.cell?,h],by simp [World.cell?,h],by simp [World.cell?,h]⟩,fun j => by simp [World.frozen?,h]⟩
def NumAt (w:World) (M:Nat) (g h:Value) (z:Int) (wx:World):Prop:=wx.cell? ⟨M,0,none⟩ = some g ∧ wx.cell? ⟨M,1,none⟩ = some h ∧ IsNum wx (.agg #[g,h]) z ∧ Below w.heap.size w wx ∧ w.heap.size ≤ M
theorem zqtv {w w3:World} {u t:Value} {z:Int} (hw:Below w.heap.size w w3) (hy:IsNum w3 (.agg #[u,t]) z):NumAt w w3.heap.size u t z (w3.alloc (.cells #[u,t] 115)) :=
 ⟨by simp [go_sem],by simp [go_sem],hy.below (zqab _ _),zqaa hw (zqab _ _),hw.size⟩
theorem zqgj {w w3:World} {M:Nat} {u t:Value} {z:Int} (hk:Kept w M 115 w3) (hy:IsNum w3 (.agg #[u,t]) z):NumAt w M u t z ((w3.setCell ⟨M,0,none⟩ u).setCell ⟨M,1,none⟩ t):=by
 have hs:=zquw hk u t;exact ⟨hs.1,hs.2,hk.num hy,(hk.1.setCell hk.2.1 _).setCell hk.2.1 _,hk.2.1⟩
theorem zqmq {a b:Ce} (h:¬ (a.key = b.key ∧ a.is.length = b.is.length ∧ a.ns.length = b.ns.length)):errJ a b = 1:=by unfold errJ; rw [if_neg h]
theorem zqkv {a b:Ce} (h:a.key = b.key ∧ a.is.length = b.is.length ∧ a.ns.length = b.ns.length) (h2:¬ (fitB (a.cnt + b.cnt) = true ∧ ∀ k,k < a.is.length → okW (wg a.is k) (wg b.is k) = true)):errJ a b = 10:=by unfold errJ; rw [if_pos h,if_neg h2]
theorem zqkw {a b:Ce} (h:a.key = b.key ∧ a.is.length = b.is.length ∧ a.ns.length = b.ns.length) (h2:fitB (a.cnt + b.cnt) = true ∧ ∀ k,k < a.is.length → okW (wg a.is k) (wg b.is k) = true):errJ a b = firstE (fun k => rErr (rg a.ns k) (rg b.ns k)) a.ns.length:=by unfold errJ; rw [if_pos h,if_pos h2]
abbrev set4 (W:World) (R:Nat) (k n:Int) (I N:Value):World:=(((W.setCell ⟨R,0,none⟩ (.int .u64 k)).setCell ⟨R,1,none⟩ (.int .i64 n)).setCell ⟨R,2,none⟩ I).setCell ⟨R,3,none⟩ N
theorem zqan {W:World} {R:Nat} {k n k' n':Int} {I N I' N':Value} {T:TypeId} (h:W.heap[R]? = some (.cells (boxV k n I N) T (0,0))):(set4 W R k' n' I' N').heap[R]? = some (.cells (boxV k' n' I' N') T (0,0)):=by
 simp [World.setCell,Array.getElem?_modify,h]
theorem zqao {B R:Nat} {w W:World} {k' n':Int} {I' N':Value} (h:Below B w W) (hR:B ≤ R):Below B w (set4 W R k' n' I' N'):=(((h.setCell hR _).setCell hR _).setCell hR _).setCell hR _
theorem hold2 {w w':World} (hb:Below w.heap.size w w') {p0 p1:Addr} {v0 v1:Value} (h:w.cell? p0 = some v0 ∧ w.cell? p1 = some v1):w'.cell? p0 = some v0 ∧ w'.cell? p1 = some v1:=⟨cell_later hb h.1,cell_later hb h.2⟩
structure ShortC (n:Nat) (c:Ce):Prop where
 li:c.is.length ≤ 10
 ln:c.ns.length ≤ 10
 sq:∀ k,k < c.is.length → (wg c.is k).sq.length ≤ n
theorem ShortC.mono {n m:Nat} {c:Ce} (h:ShortC n c) (hm:n ≤ m):ShortC m c:=⟨h.li,h.ln,fun k hk => Nat.le_trans (h.sq k hk) hm⟩
theorem zqf2 {l:List Int} (h:Wd l) (hl:l.length ≤ 31):0 ≤ wv l ∧ wv l < 1000 ^ 100:=by
 have h1:=zqas h;refine ⟨h1.1,Int.lt_of_lt_of_le h1.2 ?_⟩;have h2:(4294967296:Int) ^ l.length ≤ 4294967296 ^ 31:=by
  have:=Nat.pow_le_pow_right (n:=4294967296) (by decide) hl
  have e1:((4294967296 ^ l.length:Nat):Int) = 4294967296 ^ l.length:=by rw [Int.natCast_pow]; rfl
  have e2:((4294967296 ^ 31:Nat):Int) = 4294967296 ^ 31:=by rw [Int.natCast_pow]; rfl
  rw [← e1,← e2];exact Int.ofNat_le.2 this
 exact Int.le_trans h2 (by decide)
theorem zqf6 {l:List Int} (h:Wd l) (hl:l.length ≤ 31):Sized 120 (wv l):=by
 obtain ⟨h1,h2⟩:=zqf2 h hl;have h3:(1000:Int) ^ 100 ≤ 1000 ^ 120:=by decide
 have h4:(0:Int) < 1000 ^ 120:=by decide
 exact ⟨by omega,by omega⟩
theorem zqx4 {l m:List Int} (h:Wd l) (k:Wd m) (hl:l.length ≤ 31) (km:m.length ≤ 31):0 ≤ wv l + wv m ∧ Sized 1000 (wv l + wv m):=by
 obtain ⟨h1,h2⟩:=zqf2 h hl;obtain ⟨k1,k2⟩:=zqf2 k km;have h3:2 * (1000:Int) ^ 100 ≤ 1000 ^ 120:=by decide
 have h4:(0:Int) < 1000 ^ 120:=by decide
 refine ⟨by omega,Sized.mono (m:=120) ⟨by omega,by omega⟩ (by decide)⟩
theorem zqae {w:World} {B E sz n:Nat} {v:Value} {xs:List Value} (h:w.ownsRow B E sz v n xs):∃ a c,v = .slice a n c:=by
 rcases h.2 with ⟨rfl,h0⟩ | ⟨g,cap,cur,rfl,-⟩
 ·exact ⟨none,0,by rw [h0]⟩
 ·exact ⟨_,cap,rfl⟩
theorem zqb5 {P:Program} (w:World) {ops:Array Oper} {o:Oper} {a:Act} {K:Act → World → Prop} {Q:Exit → Act → World → Prop} {E:Prop} (hgd:o.guard = none) (s x:Operand) (t:TypeId)
  (ho:o.op = .call { callee:=.builtin .append,args:=#[s,x],argTypes:=#[t,t] })
  (base:Nat) (e:TypeId) (i:TypeInfo) (z:Value) (size bytes:Nat) (ht:P.underlying t = some (.slice e)) (hi:P.info? e = some i) (hz:i.zero = some z) (hsize:i.size = size) (hby:i.bytes = bytes) (hzs:z.cells.size = size) (hsz:0 < size)
  (v:Value) (n:Nat) (xs:List Value) (hs:a.eval s = v) (hown:w.ownsRow base e size v n xs)
  (ad:Addr) (m c:Nat) (news:List Value) (hx:a.eval x = .slice (some ad) m c) (hl:news.length = m * size) (hnews:∀ j u,news[j]? = some u → w.cell? (ad.add j) = some u) (h1:∀ u ∈ news,u.oneCell' = true)
  (h63:n + m ≤ maxLen) (hbytes:(n + m) * bytes ≤ 140737488355328) (hbase:base ≤ w.heap.size)
  (h:∀ v' w',w'.ownsRow base e size v' (n + m) (xs ++ news) → w.grownBy w' v.ownBlock → K (a.put o.dst v') w') :
  if Region.wanted o (yielded ops a.tmps) = true then Oper.wp P o a w K Q else E:=by
 have hw:Region.wanted o (yielded ops a.tmps) = true:=by simp [Region.wanted,hgd]
 rw [if_pos hw];exact wp_append_own w s x t ho base e i z size bytes ht hi hz hsize hby hzs hsz v n xs hs hown ad m c news hx hl hnews h1 h63 hbytes hbase fun v' w' h2 h3 _ => h v' w' h2 h3
theorem zqai {w w':World} {v u:Value} {p:Addr} {N:Nat} (hg:w.grownBy w' v.ownBlock) (hlt:∀ g,v.ownBlock = some g → g < N) (hp:N ≤ p.block) (h:w.cell? p = some u):w'.cell? p = some u:=by
 rw [World.grownBy.cell_far hg p (World.block_lt_of_cell? _ _ h) (fun e => by have:=hlt _ e.symm; omega)]
 exact h
theorem hold6 {w w':World} (hb:Below w.heap.size w w') {p0 p1 p2 p3 p4 p5:Addr} {v0 v1 v2 v3 v4 v5:Value}
  (h:w.cell? p0 = some v0 ∧ w.cell? p1 = some v1 ∧ w.cell? p2 = some v2 ∧ w.cell? p3 = some v3 ∧ w.cell? p4 = some v4 ∧ w.cell? p5 = some v5) :
  w'.cell? p0 = some v0 ∧ w'.cell? p1 = some v1 ∧ w'.cell? p2 = some v2 ∧ w'.cell? p3 = some v3 ∧ w'.cell? p4 = some v4 ∧ w'.cell? p5 = some v5:=by
 obtain ⟨h0,h1,h2,h3,h4,h5⟩:=h;exact ⟨cell_later hb h0,cell_later hb h1,cell_later hb h2,cell_later hb h3,cell_later hb h4,cell_later hb h5⟩
theorem grown6 {w w':World} {v:Value} {N P Q M i j k l m n:Nat} (hg:w.grownBy w' v.ownBlock) (hlt:∀ g,v.ownBlock = some g → g < N) (hP:N ≤ P) (hQ:N ≤ Q) (hM:N ≤ M) {v0 v1 v2 v3 v4 v5:Value}
  (h:w.cell? ⟨M,i,none⟩ = some v0 ∧ w.cell? ⟨M,j,none⟩ = some v1 ∧ w.cell? ⟨P,k,none⟩ = some v2 ∧ w.cell? ⟨Q,l,none⟩ = some v3 ∧ w.cell? ⟨P,m,none⟩ = some v4 ∧ w.cell? ⟨Q,n,none⟩ = some v5) :
  w'.cell? ⟨M,i,none⟩ = some v0 ∧ w'.cell? ⟨M,j,none⟩ = some v1 ∧ w'.cell? ⟨P,k,none⟩ = some v2 ∧ w'.cell? ⟨Q,l,none⟩ = some v3 ∧ w'.cell? ⟨P,m,none⟩ = some v4 ∧ w'.cell? ⟨Q,n,none⟩ = some v5:=by
 obtain ⟨h0,h1,h2,h3,h4,h5⟩:=h;exact ⟨zqai hg hlt hM h0,zqai hg hlt hM h1,zqai hg hlt hP h2,zqai hg hlt hQ h3,zqai hg hlt hP h4,zqai hg hlt hQ h5⟩
end Go.Proofs.YtmnbljijnbhghaaGreatDoor
namespace Go.Proofs.YtmnbljijnbhghaaGreatDoor
set_option maxRecDepth 100000
open Go.RowKit
set_option maxHeartbeats 400000 in
theorem zqiq (a b:Int) (h1:-9223372036854775808 ≤ a) (h2:a ≤ 9223372036854775807) (h3:-9223372036854775808 ≤ b) (h4:b ≤ 9223372036854775807) (w:World) :
  Calls Tryz.prog 108 #[.int .i64 a,.int .i64 b] w fun e w' => e = .returned (.tuple #[.int .i64 (clip (a + b)),.bool (fitB (a + b))]) ∧ w = w':=by
 by_cases h:-9223372036854775808 ≤ a + b ∧ a + b ≤ 9223372036854775807
 ·obtain ⟨h5,h6⟩:=h;have ht:=zqmf a b h1 h2 h3 h4 h5 h6;go_enter Tryz.func108,Tryz.ntmps108;go_wp2;go_ret2;exact ⟨zqy5 h5 h6 rfl rfl,rfl⟩
 ·have h5:a + b < -9223372036854775808 ∨ 9223372036854775807 < a + b:=by omega
  have ht:=zqn9 a b h1 h2 h3 h4 h5;have H5:=zh h5;clear h h5;go_enter Tryz.func108,Tryz.ntmps108;go_wp2;go_ret2;exact ⟨zqul H5.out rfl rfl,rfl⟩
end Go.Proofs.YtmnbljijnbhghaaGreatDoor
namespace Go.Proofs.YtmnbljijnbhghaaGreatDoor
set_option maxRecDepth 100000
open Go.RowKit
set_option linter.unusedVariables false
abbrev whV (z:Wh) (q:Value):Value:=.agg #[.int .i64 z.sum,.int .i64 z.abs,q,.int .i64 z.mn,.int .i64 z.mx]
abbrev reV (z:Re) (q:Value):Value:=.agg #[q,.float .f64 z.mn,.float .f64 z.mx]
def JWP (x y:Wh) (w:World) (e:Ending) (w':World):Prop :=
 ∃ (z:Wh) (q:Value) (E:Nat),e = .returned (.tuple #[whV z q,.int .i64 E]) ∧ Below w.heap.size w w' ∧ ((okW x y = false ∧ E = 10) ∨ (okW x y = true ∧ E = 0 ∧ JW x y z)) ∧
  w'.ownsRow w.heap.size 27 1 q z.sq.length (z.sq.map (Value.int .u32))
theorem zqkh (w:World) (B:Nat):w.ownsRow B 27 1 (.slice none 0 0) wh0.sq.length (wh0.sq.map (Value.int .u32)):=⟨by simp [wh0],.inl ⟨rfl,rfl⟩⟩
theorem zqbc {w w':World} {B:Nat} {p:Addr} {v:Value} (hb:Below B w w') (hp:p.block < B) (h:w.cell? p = some v):w'.cell? p = some v:=by
 unfold World.cell? at *;rw [hb.block _ hp];exact h
theorem low6 {w w':World} {B P Q:Nat} {i j k l m n:Nat} (hb:Below B w w') (hP:P < B) (hQ:Q < B) {v0 v1 v2 v3 v4 v5:Value}
  (h:w.cell? ⟨P,i,none⟩ = some v0 ∧ w.cell? ⟨Q,j,none⟩ = some v1 ∧ w.cell? ⟨P,k,none⟩ = some v2 ∧ w.cell? ⟨Q,l,none⟩ = some v3 ∧ w.cell? ⟨P,m,none⟩ = some v4 ∧ w.cell? ⟨Q,n,none⟩ = some v5) :
  w'.cell? ⟨P,i,none⟩ = some v0 ∧ w'.cell? ⟨Q,j,none⟩ = some v1 ∧ w'.cell? ⟨P,k,none⟩ = some v2 ∧ w'.cell? ⟨Q,l,none⟩ = some v3 ∧ w'.cell? ⟨P,m,none⟩ = some v4 ∧ w'.cell? ⟨Q,n,none⟩ = some v5:=by
 obtain ⟨h0,h1,h2,h3,h4,h5⟩:=h;exact ⟨zqbc hb hP h0,zqbc hb hQ h1,zqbc hb hP h2,zqbc hb hQ h3,zqbc hb hP h4,zqbc hb hQ h5⟩
abbrev set5 (W:World) (R:Nat) (a b c d e:Value):World:=((((W.setCell ⟨R,0,none⟩ a).setCell ⟨R,1,none⟩ b).setCell ⟨R,2,none⟩ c).setCell ⟨R,3,none⟩ d).setCell ⟨R,4,none⟩ e
theorem zqed {W:World} {R:Nat} {a b c d e a' b' c' d' e':Value} {T:TypeId} (h:W.heap[R]? = some (.cells #[a',b',c',d',e'] T (0,0))):(set5 W R a b c d e).heap[R]? = some (.cells #[a,b,c,d,e] T (0,0)):=by
 simp [World.setCell,Array.getElem?_modify,h]
theorem zqb3 {B R:Nat} {w W:World} {a b c d e:Value} (h:Below B w W) (hR:B ≤ R):Below B w (set5 W R a b c d e):=((((h.setCell hR _).setCell hR _).setCell hR _).setCell hR _).setCell hR _
theorem zqav {w:World} {C:Nat} {cs:Array Value} {T:TypeId} (h:w.heap[C]? = some (.cells cs T (0,0))) (j:Nat):w.frozen? ⟨C,j,none⟩ = false:=by simp [World.frozen?,h]
theorem zqf8 {w:World} {cs ds es:Array Value} {T:TypeId}:(((w.alloc (.cells cs T)).alloc (.cells ds T)).alloc (.cells es T)).heap[w.heap.size]? = some (.cells cs T (0,0)) ∧ (((w.alloc (.cells cs T)).alloc (.cells ds T)).alloc (.cells es T)).heap[w.heap.size + 1]? = some (.cells ds T (0,0)) ∧ (((w.alloc (.cells cs T)).alloc (.cells ds T)).alloc (.cells es T)).heap[w.heap.size + 1 + 1]? = some (.cells es T (0,0)) ∧ Below w.heap.size w (((w.alloc (.cells cs T)).alloc (.cells ds T)).alloc (.cells es T)):=by
 have b1:=zqab w (.cells cs T);have b2:=zqab (w.alloc (.cells cs T)) (.cells ds T);have b3:=zqab ((w.alloc (.cells cs T)).alloc (.cells ds T)) (.cells es T);have h1:(w.alloc (.cells cs T)).heap[w.heap.size]? = some (.cells cs T (0,0)):=heap_alloc_new w _;have h2:((w.alloc (.cells cs T)).alloc (.cells ds T)).heap[(w.alloc (.cells cs T)).heap.size]? = some (.cells ds T (0,0)):=heap_alloc_new _ _;have h3:(((w.alloc (.cells cs T)).alloc (.cells ds T)).alloc (.cells es T)).heap[((w.alloc (.cells cs T)).alloc (.cells ds T)).heap.size]? = some (.cells es T (0,0)):=heap_alloc_new _ _;simp only [World.size_alloc] at h2 h3;refine ⟨?_,?_,h3,zqaa (zqaa b1 b2) b3⟩
 ·rw [(zqaa b2 b3).block _ (by simp)]; exact h1
 ·rw [b3.block _ (by simp)]; exact h2
theorem zqij {W:World} {R B E sz n:Nat} {a b c d e a' b' c' d' e' v:Value} {T:TypeId} {xs:List Value} (h:W.heap[R]? = some (.cells #[a',b',c',d',e'] T (0,0))) (hT:T ≠ E) (ho:W.ownsRow B E sz v n xs):(set5 W R a b c d e).ownsRow B E sz v n xs:=by
 have e1:(W.setCell ⟨R,0,none⟩ a).heap[R]? = some (.cells #[a,b',c',d',e'] T (0,0)):=by simp [World.setCell,Array.getElem?_modify,h]
 have e2:((W.setCell ⟨R,0,none⟩ a).setCell ⟨R,1,none⟩ b).heap[R]? = some (.cells #[a,b,c',d',e'] T (0,0)):=by simp [World.setCell,Array.getElem?_modify,h]
 have e3:(((W.setCell ⟨R,0,none⟩ a).setCell ⟨R,1,none⟩ b).setCell ⟨R,2,none⟩ c).heap[R]? = some (.cells #[a,b,c,d',e'] T (0,0)):=by simp [World.setCell,Array.getElem?_modify,h]
 have e4:((((W.setCell ⟨R,0,none⟩ a).setCell ⟨R,1,none⟩ b).setCell ⟨R,2,none⟩ c).setCell ⟨R,3,none⟩ d).heap[R]? = some (.cells #[a,b,c,d,e'] T (0,0)):=by simp [World.setCell,Array.getElem?_modify,h]
 exact zqah (zqah (zqah (zqah (zqah ho h hT) e1 hT) e2 hT) e3 hT) e4 hT
set_option maxHeartbeats 4000000 in
theorem zqq0 (w:World) (x0 x1 x3 x4 y0 y1 y3 y4:Int) (lx ly:List Int) (p p':Option Addr) (c c':Nat) (hq:Ints .u32 w (.slice p lx.length c) lx) (hr:Ints .u32 w (.slice p' ly.length c') ly) (hx:WhW ⟨x0,x1,lx,x3,x4⟩) (hy:WhW ⟨y0,y1,ly,y3,y4⟩) (kx:lx.length ≤ 1000) (ky:ly.length ≤ 1000) :
  Calls Tryz.prog 110 #[.agg #[.int .i64 x0,.int .i64 x1,.slice p lx.length c,.int .i64 x3,.int .i64 x4],.agg #[.int .i64 y0,.int .i64 y1,.slice p' ly.length c',.int .i64 y3,.int .i64 y4]] w (JWP ⟨x0,x1,lx,x3,x4⟩ ⟨y0,y1,ly,y3,y4⟩ w):=by
 have HA:=zh (fun w1 (h:Below w.heap.size w w1) => zqo7 (.slice p lx.length c) (.slice p' ly.length c') lx ly w1 ⟨hq.below h,hx.sq,by omega⟩ ⟨hr.below h,hy.sq,by omega⟩ (by omega) (by omega))
 have H1:=zh (fun w1 => zqiq x0 y0 hx.sum.1 hx.sum.2 hy.sum.1 hy.sum.2 w1)
 have H2:=zh (fun w1 => zqiq x1 y1 hx.abs.1 hx.abs.2 hy.abs.1 hy.abs.2 w1)
 have HC1:=zh (show fitB (x0 + y0) = true → clip (x0 + y0) = x0 + y0 from fun h => by simp [clip,h])
 have HC2:=zh (show fitB (x1 + y1) = true → clip (x1 + y1) = x1 + y1 from fun h => by simp [clip,h])
 have HO:=zh (show okW ⟨x0,x1,lx,x3,x4⟩ ⟨y0,y1,ly,y3,y4⟩ = (fitB (x0 + y0) && fitB (x1 + y1)) from rfl);have HJ:=zh (fun z (f1:fitB (x0 + y0) = true) (f2:fitB (x1 + y1) = true) (wd:Wd z) (ty:Tidy z) (sq:wv z = wv lx + wv ly) => (⟨f1,f2,rfl,rfl,wd,ty,sq,rfl,rfl⟩:JW ⟨x0,x1,lx,x3,x4⟩ ⟨y0,y1,ly,y3,y4⟩ ⟨x0 + y0,x1 + y1,z,min x3 y3,max x4 y4⟩))
 unfold JWP;unfold Fresh at HA;generalize okW ⟨x0,x1,lx,x3,x4⟩ ⟨y0,y1,ly,y3,y4⟩ = ok at *;generalize JW ⟨x0,x1,lx,x3,x4⟩ ⟨y0,y1,ly,y3,y4⟩ = JJ at *;obtain ⟨b1,b2,b3,b4⟩:=zqf8 (w:=w) (T:=85) (cs:=#[.int .i64 x0,.int .i64 x1,.slice p lx.length c,.int .i64 x3,.int .i64 x4]) (ds:=#[.int .i64 y0,.int .i64 y1,.slice p' ly.length c',.int .i64 y3,.int .i64 y4]) (es:=#[.int .i64 0,.int .i64 0,.slice none 0 0,.int .i64 0,.int .i64 0]);have HX:=zh b1;have HY:=zh b2;have HZ:=zh b3;have HB:=zh b4;clear hx hy hq hr kx ky b1 b2 b3 b4;go_enter Tryz.func110,Tryz.ntmps110;go_upto_region 1 with fail;generalize ((w.alloc (.cells #[.int .i64 x0,.int .i64 x1,.slice p lx.length c,.int .i64 x3,.int .i64 x4] 85)).alloc (.cells #[.int .i64 y0,.int .i64 y1,.slice p' ly.length c',.int .i64 y3,.int .i64 y4] 85)).alloc (.cells #[.int .i64 0,.int .i64 0,.slice none 0 0,.int .i64 0,.int .i64 0] 85) = W at *;obtain ⟨c0,c1,c2,c3,c4⟩:=row5 HX.out;obtain ⟨d0,d1,d2,d3,d4⟩:=row5 HY.out;obtain ⟨e0,e1,e2,e3,e4⟩:=row5 HZ.out;have zf:=fun j => zqav HZ.out j
 go_wp2_with fail;refine (H1.out _).mono ?_; rintro e w1 ⟨rfl,rfl⟩;go_wp2_with fail;refine (H2.out _).mono ?_; rintro e w1 ⟨rfl,rfl⟩;clear H1 H2;generalize clip (x0 + y0) = s at *;generalize clip (x1 + y1) = a at *;generalize fitB (x0 + y0) = F1 at *;generalize fitB (x1 + y1) = F2 at *;have hcases:(F1 && F2) = false ∨ (F1 = true ∧ F2 = true):=by cases F1 <;> cases F2 <;> simp
 rcases hcases with hf | ⟨rfl,rfl⟩
 ·have hok:=HO.out.trans hf;have HB9:=zh (zqb3 (R:=w.heap.size + 1 + 1) (a:=.int .i64 0) (b:=.int .i64 0) (c:=.slice none 0 0) (d:=.int .i64 0) (e:=.int .i64 0) HB.out (by omega))
  have HZ9:=zh (zqed (a:=.int .i64 0) (b:=.int .i64 0) (c:=.slice none 0 0) (d:=.int .i64 0) (e:=.int .i64 0) HZ.out);clear HA HJ HC1 HC2;cases F1 with
  | false =>
   go_wp2_with fail;unfold set5 at HB9 HZ9;obtain ⟨r0,r1,r2,r3,r4⟩:=row5 HZ9.out;exact bodyPost_ret (v:=.tuple #[whV wh0 (.slice none 0 0),.int .i64 10]) (by simp [results,Tryz.results110,go_sem,wh0,r0,r1,r2,r3,r4]) rfl ⟨wh0,.slice none 0 0,10,rfl,HB9.out,.inl ⟨hok,rfl⟩,zqkh _ _⟩
  | true =>
   cases F2 with
   | true => exact absurd hf (by decide)
   | false =>
    go_wp2_with fail;unfold set5 at HB9 HZ9;obtain ⟨r0,r1,r2,r3,r4⟩:=row5 HZ9.out;exact bodyPost_ret (v:=.tuple #[whV wh0 (.slice none 0 0),.int .i64 10]) (by simp [results,Tryz.results110,go_sem,wh0,r0,r1,r2,r3,r4]) rfl ⟨wh0,.slice none 0 0,10,rfl,HB9.out,.inl ⟨hok,rfl⟩,zqkh _ _⟩
 ·have hok:=HO.out.trans (show (true && true) = true from rfl);have hs:=HC1.out rfl;have ha:=HC2.out rfl;subst hs;subst ha;clear HC1 HC2 HO;go_upto_region 5 with fail;have hkW:W.drew.cell? ⟨w.heap.size,2,none⟩ = some (.slice p lx.length c) ∧ W.drew.cell? ⟨w.heap.size + 1,2,none⟩ = some (.slice p' ly.length c') ∧ W.drew.cell? ⟨w.heap.size,3,none⟩ = some (.int .i64 x3) ∧ W.drew.cell? ⟨w.heap.size + 1,3,none⟩ = some (.int .i64 y3) ∧ W.drew.cell? ⟨w.heap.size,4,none⟩ = some (.int .i64 x4) ∧ W.drew.cell? ⟨w.heap.size + 1,4,none⟩ = some (.int .i64 y4):=⟨c2,d2,c3,d3,c4,d4⟩;have hk:=hkW;have hBw:Below W.heap.size W W.drew:=(Below.refl _ _).drew;have hsz:w.heap.size + 1 + 1 < W.heap.size:=(Array.getElem?_eq_some_iff.1 HZ.out).1;have hBz:=HZ.out;clear c0 c1 c2 c3 c4 d0 d1 d2 d3 d4 e0 e1 e2 e3 e4 zf;have zf:∀ j,W.drew.frozen? ⟨w.heap.size + 1 + 1,j,none⟩ = false:=fun j => zqav (w:=W.drew) HZ.out j
  go_region_held3 (fun w' => w'.cell? ⟨w.heap.size,2,none⟩ = some (.slice p lx.length c) ∧ w'.cell? ⟨w.heap.size + 1,2,none⟩ = some (.slice p' ly.length c') ∧ w'.cell? ⟨w.heap.size,3,none⟩ = some (.int .i64 x3) ∧ w'.cell? ⟨w.heap.size + 1,3,none⟩ = some (.int .i64 y3) ∧ w'.cell? ⟨w.heap.size,4,none⟩ = some (.int .i64 x4) ∧ w'.cell? ⟨w.heap.size + 1,4,none⟩ = some (.int .i64 y4))
   (first | (with_reducible exact hk) | exact low6 (zqb3 (B:=w.heap.size + 1 + 1) (Below.refl _ _) (Nat.le_refl _)) (by omega) (by omega) hk)
   (first | (go_at_call 151; refine (HA.out _ (zqaa HB.out hBw)).mono ?_; rintro e w2 ⟨u,zl,rfl,g1,g2,g3,g4,g5,g6⟩; have hBw:=zqaa hBw g6; have hk:=low6 hBw (by omega) (by omega) hkW; have hBz:=(hBw.block _ hsz).trans HZ.out; have zf:=zqav hBz; obtain ⟨e0,e1,e2,e3,e4⟩:=row5 hBz; have HO2:=zh g1; have HG:=zh (And.intro g2 (And.intro g3 g4)); obtain ⟨pq,cq,rfl⟩:=zqae g1; have HB6:=zh (zqaa HB.out hBw); clear g1 g2 g3 g4 g5 g6))
  all_goals
   clear hk hkW e0 e1 e2 e3 e4 zf;have HB9:=zqb3 (R:=w.heap.size + 1 + 1) (a:=.int .i64 (x0 + y0)) (b:=.int .i64 (x1 + y1)) (c:=.slice pq zl.length cq) (d:=.int .i64 (min x3 y3)) (e:=.int .i64 (max x4 y4)) HB6.out (by omega)
   have HZ9:=zqed (a:=.int .i64 (x0 + y0)) (b:=.int .i64 (x1 + y1)) (c:=.slice pq zl.length cq) (d:=.int .i64 (min x3 y3)) (e:=.int .i64 (max x4 y4)) hBz;have HO9:=zqij (a:=.int .i64 (x0 + y0)) (b:=.int .i64 (x1 + y1)) (c:=.slice pq zl.length cq) (d:=.int .i64 (min x3 y3)) (e:=.int .i64 (max x4 y4)) hBz (by decide) (zqak HO2.out (B':=w.heap.size) (by simp; omega))
   go_wp2_with fail;unfold set5 at HB9 HZ9 HO9;obtain ⟨r0,r1,r2,r3,r4⟩:=row5 HZ9;exact bodyPost_ret (v:=.tuple #[whV ⟨x0 + y0,x1 + y1,zl,min x3 y3,max x4 y4⟩ (.slice pq zl.length cq),.int .i64 0]) (by simp [results,Tryz.results110,go_sem,r0,r1,r2,r3,r4]) rfl ⟨_,_,0,rfl,HB9,.inr ⟨hok,rfl,HJ.out zl (by trivial) (by trivial) HG.out.1 HG.out.2.1 HG.out.2.2⟩,HO9⟩
theorem zqqz (w:World) (x y:Wh) (q r:Value) (hq:Ints .u32 w q x.sq) (hr:Ints .u32 w r y.sq) (hx:WhW x) (hy:WhW y) (lx:x.sq.length ≤ 1000) (ly:y.sq.length ≤ 1000) :
  Calls Tryz.prog 110 #[whV x q,whV y r] w (JWP x y w):=by
 cases x
 cases y
 have hq0:=hq;have hr0:=hr;obtain ⟨p,c,rfl,-,-⟩:=hq;obtain ⟨p',c',rfl,-,-⟩:=hr;exact zqq0 w _ _ _ _ _ _ _ _ _ _ p p' c c' hq0 hr0 hx hy lx ly
end Go.Proofs.YtmnbljijnbhghaaGreatDoor
