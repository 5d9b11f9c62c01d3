/- Contracts that the law leans on: Div. -/
import Derived.Test.YtpgchfihedcdkaaGreatDoorGt02
import Derived.Test.YtpgchfihedcdkaaGreatDoorGt04
namespace Go.Proofs.YtpgchfihedcdkaaGreatDoor
set_option maxRecDepth 100000
open Go.RowKit
def MadeAt (w:World) (a:Option Addr) (z:Int) (e:Ending) (w':World):Prop:=∃ b n c,e = .returned (.agg #[.bool b,.slice a n c]) ∧ IsNum w' (.agg #[.bool b,.slice a n c]) z ∧ Below w.heap.size w w'
set_option maxHeartbeats 1000000 in
theorem zq1z (neg:Bool) (ap:Option Addr) (ac:Nat) (ds:List Int) (w:World) (hv:Ints .i64 w (.slice ap ds.length ac) ds) (ht:Typed 3 w (.slice ap ds.length ac)) (hd:Dig ds) (hl:ds.length ≤ 1099511627776) :
  Calls Tryz.prog 196 #[.bool neg,.slice ap ds.length ac] w (MadeAt w ap (signed neg (val ds))):=by
 have HV:=zh hv;have HT:=zh ht;clear ht;have hcap:ds.length ≤ ac:=by
  obtain ⟨_,_,e,hc,-⟩:=hv;simp only [Value.slice.injEq] at e;omega
 clear hv;go_enter Tryz.func196,Tryz.ntmps196;go_wp2_with fail;go_loop [5] (fun i => ∃ n:Nat,n ≤ ds.length ∧ i = .int .i64 n ∧ Hid (∀ j,n ≤ j → ds.getD j 0 = 0)) (fun i => (intOf i).toNat)
 case atStart => exact ⟨_,Nat.le_refl _,rfl,zh (fun j hj => zqa9 hj)⟩
 case round =>
  obtain ⟨n,hn,rfl,hz⟩:=hrel
  by_cases h0:n = 0
  ·subst h0;cases neg
   all_goals
    go_wp2_with fail;exact bodyPost_ret (v:=.agg #[.bool false,.slice ap 0 ac]) (by simp [results,Tryz.results196,go_sem]) rfl ⟨_,_,_,rfl,zqdx _ HV.out HT.out hd (Nat.zero_le _) hz.out (.inl rfl) rfl,zqab _ _⟩
  ·obtain ⟨m,rfl⟩:∃ m,n = m + 1:=⟨n - 1,by omega⟩
   obtain ⟨b,off,hap,hb,hcell⟩:=HV.out.cell (i:=m) (by omega)
   subst hap;have hzz:=zh (fun (x:Int) (hx:ds.getD m 0 = x) (e:x = 0) => (zqfr (b:=[]) (by simpa [List.getD] using hz.out) (by rw [hx,e]; rfl):∀ j,m ≤ j → ds.getD j 0 = [].getD j 0))
   have ht:=zh (fun (x:Int) (hx:ds.getD m 0 = x) (e:x ≠ 0) => (zqig (n:=m + 1) hn (.inr (by rw [Nat.add_sub_cancel,hx]; exact e))))
   generalize hx:ds.getD m 0 = x at *;have hzz2:=zh (hzz.out x rfl);have ht2:=zh (ht.out x rfl);clear hzz ht hx
   by_cases hx0:x = 0
   ·subst hx0;go_wp2_with fail;go_round
    case rel => exact ⟨m,by omega,by go_num,zh (by simpa [List.getD] using hzz2.out rfl)⟩
    case measure => simp [intOf]
   ·cases neg
    all_goals
     go_wp2_with fail
    ·exact bodyPost_ret (v:=.agg #[.bool false,.slice (some ⟨b,off,none⟩) (m + 1) ac]) (by simp [results,Tryz.results196,go_sem]) rfl ⟨_,_,_,rfl,zqdx _ HV.out HT.out hd hn hz.out (ht2.out hx0) rfl,zqab _ _⟩
    ·exact bodyPost_ret (v:=.agg #[.bool true,.slice (some ⟨b,off,none⟩) (m + 1) ac]) (by simp [results,Tryz.results196,go_sem]) rfl ⟨_,_,_,rfl,zqdx _ HV.out HT.out hd hn hz.out (ht2.out hx0) (by simp),zqab _ _⟩
def From (lo:Nat) (t:Value):Prop:=∀ b off l c,t = .slice (some ⟨b,off,none⟩) l c → lo ≤ b
theorem IsNum.set_far {w:World} {u t:Value} {z:Int} (h:IsNum w (.agg #[u,t]) z) {p:Addr} (x:Value) (hp:From (p.block + 1) t):IsNum (w.setCell p x) (.agg #[u,t]) z:=by
 obtain ⟨b,s,d,e,h2,h3,h4⟩:=h;simp only [Value.agg.injEq,Array.mk.injEq,List.cons.injEq,and_true] at e;obtain ⟨rfl,rfl⟩:=e;refine ⟨b,t,d,rfl,?_,h3.set p x,h4⟩;obtain ⟨a,cap,rfl,hc,ha⟩:=h2;refine ⟨a,cap,rfl,hc,?_⟩;rcases ha with h | ⟨bb,off,rfl,hbl,hcell⟩
 ·exact .inl h
 ·have:=hp bb off _ _ rfl;exact .inr ⟨bb,off,rfl,by simpa [World.setCell] using hbl,fun i hi => by rw [World.cell?_setCell_far _ _ _ _ (by simp; omega)]; exact hcell i hi⟩
def DivFix (w:World) (R:Nat) (a0 a1 b0 b1:Value) (wr:World):Prop :=
 wr.heap[w.heap.size]? = some (.cells #[a0,a1] 112 (0,0)) ∧ wr.heap[w.heap.size + 1]? = some (.cells #[b0,b1] 112 (0,0)) ∧
 (∃ x y,wr.heap[w.heap.size + 1 + 1]? = some (.cells #[x,y] 112 (0,0))) ∧ (∃ x y,wr.heap[w.heap.size + 1 + 1 + 1]? = some (.cells #[x,y] 112 (0,0))) ∧
 wr.heap[R + 1]? = some (.cells #[.bool false,b1] 112 (0,0)) ∧ Below w.heap.size w wr ∧ w.heap.size + 1 + 1 + 1 + 1 + 1 ≤ R
def DivState (w:World) (R:Nat) (a0 a1 b0 b1:Value) (q:List Int) (r:Int) (lo:Nat) (wr:World):Prop :=
 DivFix w R a0 a1 b0 b1 wr ∧ (∃ u t,wr.heap[R]? = some (.cells #[u,t] 112 (0,0)) ∧ IsNum wr (.agg #[u,t]) r ∧ From lo t) ∧
 wr.ownsRow (w.heap.size + 1 + 1 + 1 + 1) 3 1 (.slice (some ⟨w.heap.size + 1 + 1 + 1 + 1,0,none⟩) q.length q.length) q.length (q.map (Value.int .i64))
theorem block_lt {w:World} {k:Nat} {o:Obj} (h:w.heap[k]? = some o):k < w.heap.size:=(Array.getElem?_eq_some_iff.1 h).1
theorem DivFix.call {w w1 w2:World} {R:Nat} {a0 a1 b0 b1:Value} (h:DivFix w R a0 a1 b0 b1 w1) (hb:Below w1.heap.size w1 w2):DivFix w R a0 a1 b0 b1 w2:=by
 obtain ⟨h1,h2,⟨x,y,h3⟩,⟨x',y',h4⟩,h5,h6,hR⟩:=h;exact ⟨by rw [hb.block _ (block_lt h1)]; exact h1,by rw [hb.block _ (block_lt h2)]; exact h2,⟨x,y,by rw [hb.block _ (block_lt h3)]; exact h3⟩,⟨x',y',by rw [hb.block _ (block_lt h4)]; exact h4⟩,by rw [hb.block _ (block_lt h5)]; exact h5,h6.trans (hb.mono h6.size),hR⟩
theorem own_below {w w':World} {B E:Nat} {v:Value} {n:Nat} {xs:List Value} (h:w.ownsRow B E 1 v n xs) (hb:Below w.heap.size w w'):w'.ownsRow B E 1 v n xs:=by
 obtain ⟨hl,h⟩:=h;refine ⟨hl,?_⟩;rcases h with h | ⟨g,cap,cur,h1,h2,h3,h4⟩
 ·exact .inl h
 ·exact .inr ⟨g,cap,cur,h1,h2,by rw [hb.block g (block_lt h3)]; exact h3,h4⟩
theorem DivState.call {w w1 w2:World} {R:Nat} {a0 a1 b0 b1:Value} {q:List Int} {r:Int} {lo:Nat} (h:DivState w R a0 a1 b0 b1 q r lo w1) (hb:Below w1.heap.size w1 w2):DivState w R a0 a1 b0 b1 q r lo w2:=by
 obtain ⟨h1,⟨u,t,h2,h3,h4⟩,h5⟩:=h;exact ⟨h1.call hb,⟨u,t,by rw [hb.block _ (block_lt h2)]; exact h2,h3.below hb,h4⟩,own_below h5 hb⟩
theorem DivFix.set {w w1:World} {R:Nat} {a0 a1 b0 b1:Value} (h:DivFix w R a0 a1 b0 b1 w1) (k:Nat) (hk:k = w.heap.size + 1 + 1 + 1 + 1 ∨ k = R) (j:Nat) (x:Value):DivFix w R a0 a1 b0 b1 (w1.setCell ⟨k,j,none⟩ x):=by
 obtain ⟨h1,h2,⟨x',y,h3⟩,⟨x'',y',h4⟩,h5,h6,hR⟩:=h;refine ⟨?_,?_,⟨x',y,?_⟩,⟨x'',y',?_⟩,?_,h6.setCell (by simp; omega) _,hR⟩
 all_goals rw [Below.heap_setCell _ _ _ _ (by simp; omega)]; assumption
theorem DivState.set_q {w w1:World} {R:Nat} {a0 a1 b0 b1:Value} {q:List Int} {r:Int} {lo:Nat} (h:DivState w R a0 a1 b0 b1 q r lo w1) (hlo:w.heap.size + 1 + 1 + 1 + 1 + 1 ≤ lo) (j:Nat) (x:Int) :
  DivState w R a0 a1 b0 b1 (q.set j x) r lo (w1.setCell ⟨w.heap.size + 1 + 1 + 1 + 1,j,none⟩ (.int .i64 x)):=by
 obtain ⟨h1,⟨u,t,h2,h3,h4⟩,h5⟩:=h;refine ⟨h1.set _ (.inl rfl) j _,⟨u,t,?_,h3.set_far _ (fun b off l c e => by have:=h4 b off l c e; simp; omega),h4⟩,?_⟩
 ·rw [Below.heap_setCell _ _ _ _ (by have:=h1.2.2.2.2.2.2; simp; omega)]; exact h2
 ·have:=(h5.stored j (.int .i64 x)).1;simpa [List.map_set] using this
theorem DivState.set_r {w w1:World} {R:Nat} {a0 a1 b0 b1:Value} {q:List Int} {r r':Int} {lo lo':Nat} {u t:Value} (h:DivState w R a0 a1 b0 b1 q r lo w1) (hr:IsNum w1 (.agg #[u,t]) r') (hl:From lo' t) :
  DivState w R a0 a1 b0 b1 q r' lo' ((w1.setCell ⟨R,0,none⟩ u).setCell ⟨R,1,none⟩ t):=by
 obtain ⟨h1,⟨u',t',h2,h3,h4⟩,h5⟩:=h;obtain ⟨cur,h6⟩:=zqas (p:=⟨R,0,none⟩) (u:=u) h2;refine ⟨(h1.set _ (.inr rfl) 0 u).set _ (.inr rfl) 1 t,⟨u,t,zqgg h2,(hr.set u h2 (by decide)).set t h6 (by decide),hl⟩,?_⟩
 obtain ⟨hl',h5⟩:=h5;refine ⟨hl',?_⟩;rcases h5 with h5 | ⟨g,cap,cur',e,k2,k3,k4⟩
 ·exact .inl h5
 ·simp only [Value.slice.injEq,Option.some.injEq,Addr.mk.injEq] at e;obtain ⟨⟨rfl,_⟩,_,rfl⟩:=e;refine .inr ⟨_,_,cur',rfl,k2,?_,k4⟩;rw [Below.heap_setCell _ _ _ _ (by have:=h1.2.2.2.2.2.2; simp; omega),Below.heap_setCell _ _ _ _ (by have:=h1.2.2.2.2.2.2; simp; omega)]; exact k3
theorem zqbk {w:World} {k:Nat} {x y:Value} {T:TypeId} (h:w.heap[k]? = some (.cells #[x,y] T (0,0))):w.cell? ⟨k,0,none⟩ = some x ∧ w.cell? ⟨k,1,none⟩ = some y ∧ w.frozen? ⟨k,0,none⟩ = false ∧ w.frozen? ⟨k,1,none⟩ = false :=
 ⟨by simp [World.cell?,h],by simp [World.cell?,h],by simp [World.frozen?,h],by simp [World.frozen?,h]⟩
end Go.Proofs.YtpgchfihedcdkaaGreatDoor
