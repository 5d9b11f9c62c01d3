/- Contracts that the law leans on: Divw Natv. -/
import Derived.Deep.RegionLaw
import Derived.WalkSpells
import Derived.RegionTactic
import Derived.ChangeAlike
import Derived.Deep.LoopGhost
import Derived.Laws.IdiomStrings
import Derived.Test.YtpgchfihedcdkaaGreatDoorGt02
import Derived.Test.YtpgchfihedcdkaaGreatDoorGt11
import Derived.Test.YtpgchfihedcdkaaGreatDoorGt12
namespace Go.Proofs.YtpgchfihedcdkaaGreatDoor
set_option maxRecDepth 100000
open Go.RowKit
theorem IsNum.zero' {w:World}:IsNum w (.agg #[.bool false,.slice none 0 0]) 0:=⟨false,_,[],rfl,⟨none,0,rfl,by simp,.inl rfl⟩,Typed.none,Dig.nil,.inl rfl,(fun e => by cases e),rfl⟩
theorem zqx7 {w wr:World} {a0 a1 b0 b1:Value} {o1 o2 o3 o4:Value}
  (hg:((((w.alloc (.cells #[a0,a1] 112)).alloc (.cells #[b0,b1] 112)).alloc (.cells #[o1,o2] 112)).alloc (.cells #[o3,o4] 112)).grownBy wr none) :
  wr.heap[w.heap.size]? = some (.cells #[a0,a1] 112 (0,0)) ∧ wr.heap[w.heap.size + 1]? = some (.cells #[b0,b1] 112 (0,0)) ∧
  wr.heap[w.heap.size + 1 + 1]? = some (.cells #[o1,o2] 112 (0,0)) ∧ wr.heap[w.heap.size + 1 + 1 + 1]? = some (.cells #[o3,o4] 112 (0,0)) ∧ Below w.heap.size w wr:=by
 have hb:=(Below.refl _ _).grown hg (Nat.le_refl _) (fun k hk => by cases hk)
 have h1:=heap_alloc_new w (.cells #[a0,a1] 112);have h2:=heap_alloc_new (w.alloc (.cells #[a0,a1] 112)) (.cells #[b0,b1] 112);have h3:=heap_alloc_new ((w.alloc (.cells #[a0,a1] 112)).alloc (.cells #[b0,b1] 112)) (.cells #[o1,o2] 112);have h4:=heap_alloc_new (((w.alloc (.cells #[a0,a1] 112)).alloc (.cells #[b0,b1] 112)).alloc (.cells #[o1,o2] 112)) (.cells #[o3,o4] 112);simp only [World.size_alloc] at h2 h3 h4;refine ⟨?_,?_,?_,?_,?_⟩
 ·rw [hb.block _ (by simp <;> omega),Below.heap_alloc _ _ _ (by simp <;> omega),Below.heap_alloc _ _ _ (by simp <;> omega),Below.heap_alloc _ _ _ (by simp)]; exact h1
 ·rw [hb.block _ (by simp <;> omega),Below.heap_alloc _ _ _ (by simp <;> omega),Below.heap_alloc _ _ _ (by simp)]; exact h2
 ·rw [hb.block _ (by simp <;> omega),Below.heap_alloc _ _ _ (by simp)]; exact h3
 ·rw [hb.block _ (by simp)]; exact h4
 ·exact ((((Below.refl _ _).alloc (Nat.le_refl _) _).alloc (by simp) _).alloc (by simp; omega) _).alloc (by simp; omega) _ |>.trans (hb.mono (by simp; omega))
theorem zqug {w wr:World} {a0 a1 b0 b1 o1 o2 o3 o4:Value} {n:Nat} {z:Array Value} (hz:z = #[.int .i64 0])
  (hown:wr.ownsRow (w.heap.size + 1 + 1 + 1 + 1) 3 1 (.slice (some ⟨w.heap.size + 1 + 1 + 1 + 1,0,none⟩) n n) n (madeCells z (n * 1)).toList)
  (h:wr.heap[w.heap.size]? = some (.cells #[a0,a1] 112 (0,0)) ∧ wr.heap[w.heap.size + 1]? = some (.cells #[b0,b1] 112 (0,0)) ∧
   wr.heap[w.heap.size + 1 + 1]? = some (.cells #[o1,o2] 112 (0,0)) ∧ wr.heap[w.heap.size + 1 + 1 + 1]? = some (.cells #[o3,o4] 112 (0,0)) ∧ Below w.heap.size w wr) :
  DivState w wr.heap.size a0 a1 b0 b1 (List.replicate n 0) 0 0 ((wr.alloc (.cells #[.bool false,.slice none 0 0] 112)).alloc (.cells #[.bool false,b1] 112)):=by
 subst hz;obtain ⟨h1,h2,h3,h4,h5⟩:=h;rw [toList_madeCells_one] at hown;have hb:=zqa4 wr (.cells #[.bool false,.slice none 0 0] 112) (.cells #[.bool false,b1] 112);have hn:=heap_alloc_new (wr.alloc (.cells #[.bool false,.slice none 0 0] 112)) (.cells #[.bool false,b1] 112);have hm:=heap_alloc_new wr (.cells #[.bool false,.slice none 0 0] 112);simp only [World.size_alloc] at hn;have hR:w.heap.size + 1 + 1 + 1 + 1 + 1 ≤ wr.heap.size:=by
  rcases hown.2 with ⟨h,_⟩ | ⟨g,cap,cur,e,_,hg,_⟩
  ·cases h
  ·simp only [Value.slice.injEq,Option.some.injEq,Addr.mk.injEq] at e;obtain ⟨⟨rfl,_⟩,_⟩:=e;exact block_lt hg
 refine ⟨⟨?_,?_,⟨o1,o2,?_⟩,⟨o3,o4,?_⟩,hn,h5.trans (hb.mono h5.size),hR⟩,⟨.bool false,.slice none 0 0,?_,IsNum.zero',fun _ _ _ _ e => by cases e⟩,own_below (by simpa using hown) hb⟩
 ·rw [hb.block _ (block_lt h1)]; exact h1
 ·rw [hb.block _ (block_lt h2)]; exact h2
 ·rw [hb.block _ (block_lt h3)]; exact h3
 ·rw [hb.block _ (block_lt h4)]; exact h4
 ·rw [Below.heap_alloc _ _ _ (by simp)]; exact hm
def DivPost (w:World) (x y:Int) (e:Ending) (w':World):Prop:=∃ v1 v2,e = .returned (.tuple #[v1,v2]) ∧ IsNum w' v1 x ∧ IsNum w' v2 y ∧ Below w.heap.size w w'
theorem DivState.facts {w wr:World} {R:Nat} {a0 a1 b0 b1:Value} {q:List Int} {r:Int} {lo:Nat} (h:DivState w R a0 a1 b0 b1 q r lo wr) :
  wr.cell? ⟨w.heap.size,0,none⟩ = some a0 ∧ wr.cell? ⟨w.heap.size,1,none⟩ = some a1 ∧ wr.cell? ⟨w.heap.size + 1,0,none⟩ = some b0 ∧ wr.cell? ⟨w.heap.size + 1,1,none⟩ = some b1 ∧
  wr.cell? ⟨R + 1,0,none⟩ = some (.bool false) ∧ wr.cell? ⟨R + 1,1,none⟩ = some b1 ∧ Below w.heap.size w wr ∧ R + 1 < wr.heap.size ∧
  (∃ u t,wr.cell? ⟨R,0,none⟩ = some u ∧ wr.cell? ⟨R,1,none⟩ = some t ∧ wr.frozen? ⟨R,0,none⟩ = false ∧ wr.frozen? ⟨R,1,none⟩ = false ∧ IsNum wr (.agg #[u,t]) r):=by
 obtain ⟨⟨h1,h2,_,_,h5,h6,_⟩,⟨u,t,h7,h8,_⟩,_⟩:=h;obtain ⟨a1,a2,-,-⟩:=zqbk h1;obtain ⟨b1,b2,-,-⟩:=zqbk h2;obtain ⟨d1,d2,-,-⟩:=zqbk h5;obtain ⟨r1,r2,r3,r4⟩:=zqbk h7;exact ⟨a1,a2,b1,b2,d1,d2,h6,block_lt h5,u,t,r1,r2,r3,r4,h8⟩
theorem zqsr {w:World} {u t:Value} {r:Int} {n:Nat} (h:IsNum w (.agg #[u,t]) r) (h0:0 ≤ r) (h1:r < 1000 ^ n):∃ rd,Ints .i64 w t rd ∧ Dig rd ∧ val rd = r ∧ rd.length ≤ n:=by
 obtain ⟨b,s,d,e,h2,-,hd,ht,hn,hz⟩:=h;simp only [Value.agg.injEq,Array.mk.injEq,List.cons.injEq,and_true] at e;obtain ⟨rfl,rfl⟩:=e;have hv:val d = r:=by
  cases b
  ·simp [signed] at hz; exact hz.symm
  ·have:=ht.pos hd (hn rfl);simp [signed] at hz; omega
 exact ⟨d,h2,hd,hv,ht.len hd (by omega)⟩
theorem zqym {w:World} {B E:Nat} {v:Value} {n:Nat} {xs:List Value} (h:w.ownsRow B E 1 v n xs) {lo:Nat} (hl:lo ≤ B):From lo v:=by
 intro b off l c e;obtain ⟨_,h⟩:=h;rcases h with ⟨rfl,_⟩ | ⟨g,cap,cur,rfl,h2,_⟩
 ·cases e
 ·simp only [Value.slice.injEq,Option.some.injEq,Addr.mk.injEq] at e;omega
theorem From.same {lo:Nat} {a:Option Addr} {l c l' c':Nat} (h:From lo (.slice a l c)):From lo (.slice a l' c'):=fun b off m d e => by
 simp only [Value.slice.injEq] at e;exact h b off l c (by rw [e.1])
theorem zqc0 {n:Nat} {z:Int} (h0:0 ≤ z) (B:Int) (h:z ≤ 1000 * B) (hB:B < 1000 ^ n):Sized (n + 2) z:=by
 have:=p_pos n;unfold Sized;rw [zqbx,zqbx]; omega
theorem zqvj {wr w2:World} {cs:Array Value} {T:TypeId} (hg:((wr.alloc (.cells cs T)).drew).grownBy w2 (some wr.heap.size)):Below wr.heap.size wr w2:=by
 have h:(wr.alloc (.cells cs T)).grownBy w2 (some wr.heap.size):=⟨hg.os,hg.tape,hg.output,hg.size,hg.block⟩;exact (zqab wr _).grown h (by simp) (fun k hk => by simp only [Option.some.injEq] at hk; omega)
theorem DivState.low {w wr:World} {R:Nat} {a0 a1 b0 b1:Value} {q:List Int} {r:Int} {lo:Nat} (h:DivState w R a0 a1 b0 b1 q r lo wr):DivState w R a0 a1 b0 b1 q r 0 wr:=by
 obtain ⟨h1,⟨u,t,h2,h3,h4⟩,h5⟩:=h;exact ⟨h1,⟨u,t,h2,h3,fun b off l c e => by omega⟩,h5⟩
theorem DivState.q_cell {w wr:World} {R:Nat} {a0 a1 b0 b1:Value} {q:List Int} {r:Int} {lo:Nat} (h:DivState w R a0 a1 b0 b1 q r lo wr) {j:Nat} (hj:j < q.length) :
  wr.cell? ⟨w.heap.size + 1 + 1 + 1 + 1,j,none⟩ = some (.int .i64 (q.getD j 0)) ∧ wr.frozen? ⟨w.heap.size + 1 + 1 + 1 + 1,j,none⟩ = false:=by
 obtain ⟨_,_,h8⟩:=h;refine ⟨?_,h8.frozenAt j⟩;rw [h8.cellAt j (by omega)]
 simp [List.getD,hj]
def Four (R:Nat) (a b c d:Value) (w':World):Prop:=w'.cell? ⟨R,0,none⟩ = some a ∧ w'.cell? ⟨R,1,none⟩ = some b ∧ w'.cell? ⟨R + 1,0,none⟩ = some c ∧ w'.cell? ⟨R + 1,1,none⟩ = some d
theorem Four.call {R:Nat} {a b c d:Value} {w1 w2:World} (h:Four R a b c d w1) (hb:Below w1.heap.size w1 w2):Four R a b c d w2:=⟨cell_later hb h.1,cell_later hb h.2.1,cell_later hb h.2.2.1,cell_later hb h.2.2.2⟩
theorem zqyl (x y:Int) (hy:y ≠ 0):(x.fmod y).natAbs < y.natAbs:=by
 rcases Int.lt_or_gt_of_ne hy with h | h
 ·have e:=Int.neg_fmod_neg (-x) (-y);have p:=Int.fmod_nonneg_of_pos (-x) (b:=-y) (by omega)
  have q:=Int.fmod_lt_of_pos (-x) (b:=-y) (by omega)
  rw [Int.neg_neg,Int.neg_neg] at e;omega
 ·have p:=Int.fmod_nonneg_of_pos x (b:=y) h;have q:=Int.fmod_lt_of_pos x (b:=y) h;omega
theorem zqhk {n:Nat} {x y:Int} (hx:Sized n x) (hy:Sized n y) (hy0:y ≠ 0):Sized (n + 1) (x.fdiv y * y) ∧ Sized (n + 1) (x.fdiv y) ∧ x - x.fdiv y * y = x.fmod y:=by
 have h1:=Int.fmod_add_mul_fdiv x y;have h2:=zqyl x y hy0;have h3:y * x.fdiv y = x.fdiv y * y:=Int.mul_comm _ _;have hp:=p_pos n;have h4:(x.fdiv y * y).natAbs = (x.fdiv y).natAbs * y.natAbs:=Int.natAbs_mul _ _;have h5:(x.fdiv y).natAbs * 1 ≤ (x.fdiv y).natAbs * y.natAbs:=Nat.mul_le_mul_left _ (by omega)
 obtain ⟨a1,a2⟩:=hx;obtain ⟨b1,b2⟩:=hy;unfold Sized;rw [zqbx];omega
theorem zqtd {w w1:World} {N:Nat} {T:TypeId} (h:Kept w N T w1) (u v:Value) :
  ((w1.setCell ⟨N,0,none⟩ u).setCell ⟨N,1,none⟩ v).cell? ⟨N,0,none⟩ = some u ∧ ((w1.setCell ⟨N,0,none⟩ u).setCell ⟨N,1,none⟩ v).cell? ⟨N,1,none⟩ = some v:=by
 obtain ⟨h1,h2,x,y,h3⟩:=h;have h4:=zqgg (u:=u) (v:=v) h3;exact ⟨by simp [World.cell?,h4],by simp [World.cell?,h4]⟩
theorem zqlc {w w4:World} {R:Nat} {a0 a1 b0 b1:Value} (h:DivFix w R a0 a1 b0 b1 w4) (u1 u2 u3 u4:Value) :
  (∀ v z,IsNum w4 v z → IsNum ((((w4.setCell ⟨w.heap.size + 1 + 1,0,none⟩ u1).setCell ⟨w.heap.size + 1 + 1,1,none⟩ u2).setCell ⟨w.heap.size + 1 + 1 + 1,0,none⟩ u3).setCell ⟨w.heap.size + 1 + 1 + 1,1,none⟩ u4) v z) ∧
  Below w.heap.size w ((((w4.setCell ⟨w.heap.size + 1 + 1,0,none⟩ u1).setCell ⟨w.heap.size + 1 + 1,1,none⟩ u2).setCell ⟨w.heap.size + 1 + 1 + 1,0,none⟩ u3).setCell ⟨w.heap.size + 1 + 1 + 1,1,none⟩ u4):=by
 obtain ⟨-,-,⟨x,y,h3⟩,⟨x',y',h4⟩,-,h6,-⟩:=h;obtain ⟨c1,k1⟩:=zqas (p:=⟨w.heap.size + 1 + 1,0,none⟩) (u:=u1) h3;obtain ⟨c2,k2⟩:=zqas (p:=⟨w.heap.size + 1 + 1,0,none⟩) (u:=u1) h4;obtain ⟨c3,k3⟩:=zqas (p:=⟨w.heap.size + 1 + 1,1,none⟩) (u:=u2) k2;obtain ⟨c4,k4⟩:=zqas (p:=⟨w.heap.size + 1 + 1 + 1,0,none⟩) (u:=u3) k3;refine ⟨fun v z hv => (((hv.set u1 h3 (by decide)).set u2 k1 (by decide)).set u3 k3 (by decide)).set u4 k4 (by decide),?_⟩
 exact (((h6.setCell (by simp <;> omega) _).setCell (by simp <;> omega) _).setCell (by simp <;> omega) _).setCell (by simp <;> omega) _
abbrev Six (X N:Nat) (z0 z1 a0 a1 b0 b1:Value) (w':World):Prop :=
 w'.cell? ⟨X,0,none⟩ = some z0 ∧ w'.cell? ⟨X,1,none⟩ = some z1 ∧ w'.cell? ⟨N,0,none⟩ = some a0 ∧ w'.cell? ⟨N,1,none⟩ = some a1 ∧ w'.cell? ⟨N + 1,0,none⟩ = some b0 ∧ w'.cell? ⟨N + 1,1,none⟩ = some b1
theorem Six.call {X N:Nat} {z0 z1 a0 a1 b0 b1:Value} {w1 w2:World} (h:Six X N z0 z1 a0 a1 b0 b1 w1) (hb:Below w1.heap.size w1 w2):Six X N z0 z1 a0 a1 b0 b1 w2 :=
 ⟨cell_later hb h.1,cell_later hb h.2.1,cell_later hb h.2.2.1,cell_later hb h.2.2.2.1,cell_later hb h.2.2.2.2.1,cell_later hb h.2.2.2.2.2⟩
theorem Six.store {X N M:Nat} {z0 z1 a0 a1 b0 b1:Value} {w1:World} (h:Six X N z0 z1 a0 a1 b0 b1 w1) (h1:M ≠ X) (h2:M ≠ N) (h3:M ≠ N + 1) (u v:Value):Six X N z0 z1 a0 a1 b0 b1 ((w1.setCell ⟨M,0,none⟩ u).setCell ⟨M,1,none⟩ v):=by
 obtain ⟨q1,q2,q3,q4,q5,q6⟩:=h;refine ⟨?_,?_,?_,?_,?_,?_⟩
 ·rw [World.cell?_setCell_far _ _ _ _ h1,World.cell?_setCell_far _ _ _ _ h1]; exact q1
 ·rw [World.cell?_setCell_far _ _ _ _ h1,World.cell?_setCell_far _ _ _ _ h1]; exact q2
 ·rw [World.cell?_setCell_far _ _ _ _ h2,World.cell?_setCell_far _ _ _ _ h2]; exact q3
 ·rw [World.cell?_setCell_far _ _ _ _ h2,World.cell?_setCell_far _ _ _ _ h2]; exact q4
 ·rw [World.cell?_setCell_far _ _ _ _ h3,World.cell?_setCell_far _ _ _ _ h3]; exact q5
 ·rw [World.cell?_setCell_far _ _ _ _ h3,World.cell?_setCell_far _ _ _ _ h3]; exact q6
set_option maxRecDepth 100000 in
set_option maxHeartbeats 2000000 in
theorem zqqx (u v:Value) (x y:Int) (n:Nat) (w:World) (hu:IsNum w u x) (hv:IsNum w v y) (hx:Sized n x) (hy:Sized n y) (hn:n ≤ 68719476736) (hy0:y ≠ 0) :
  Calls Tryz.prog 284 #[u,v] w (DivPost w (x.fdiv y) (x.fmod y)):=by
 obtain ⟨i0,hi,hz0,hz1,hz2⟩:=info_parts Tryz.infoInt;have HU:=zh hu;have HV:=zh hv;obtain ⟨b1,s1,a,rfl,i1,t1,g1,y1,-,rfl⟩:=hu;obtain ⟨b2,s2,b,rfl,i2,t2,g2,y2,-,rfl⟩:=hv;have la:=zqa7 g1 y1 hx;have lb:=zqa7 g2 y2 hy;have HA:=zh i1;have HD:=zh (And.intro g1 g2);have HDn:Hid (∀ w1,Below w.heap.size w w1 → IsNum w1 (.agg #[.bool false,s2]) (val b)):=zh (fun w1 hb => ⟨false,_,b,rfl,i2.below hb,t2.below hb,g2,y2,(fun e => by cases e),rfl⟩)
 have hB0:0 < val b:=by
  have:=(zqbj g2).1;cases b2 <;> simp [signed] at hy0 <;> omega
 obtain ⟨p1,c1,rfl,-,-⟩:=i1;obtain ⟨p2,c2,rfl,-,-⟩:=i2;have HSX:=zh (And.intro hx hy);clear hx hy y1 y2 g1 g2 t1 t2 hy0;go_enter Tryz.func284,Tryz.ntmps284;go_wp2_with (at_make; refine wpList_make_full _ rfl _ _ 78 rfl (w.heap.size + 1 + 1 + 1 + 1) 3 i0 (.int .i64 0) 1 Tryz.underlying78 hi hz0 hz1 .i64 .i64 _ _ a.length rfl rfl rfl rfl (by rw [hz2]; omega) (by unfold maxLen; omega) (by simp) ?_; intro w0 hown hgrow; simp only [World.size_alloc] at hown; have hW:=zqx7 hgrow; have hM:=zh (zqug rfl hown hW); obtain ⟨q1,q2,q3,q4,-⟩:=hW; obtain ⟨q5,q6,-,-⟩:=zqbk q1; obtain ⟨q7,q8,-,-⟩:=zqbk q2; have l1:=block_lt q1; have l2:=block_lt q2; clear q1 q2 q3 q4 hown hgrow)
 go_wp2_with fail;clear q5 q6 q7 q8 l1 l2;have hBn:=zh (show val b < 1000 ^ n from by
  have h1:=(zqbj HD.out.2).2;have h2:=zqdk (m:=b.length) (n:=n) lb;omega)
 go_loopw [9] (fun i wr => ∃ (k:Nat) (t:Int) (q:List Int) (r:Int),Hid (t = (k:Int) - 1) ∧ -1 ≤ t ∧ t ≤ 1099511627776 ∧ k ≤ a.length ∧ i = .int .i64 t ∧ Hid (DivRel a q (val b) k r) ∧
   Hid (DivState w w0.heap.size (.bool b1) (.slice p1 a.length c1) (.bool b2) (.slice p2 b.length c2) q r 0 wr)) (fun i _ => (intOf i + 1).toNat)
 case atStart => exact ⟨a.length,_,_,0,zh rfl,by omega,by omega,Nat.le_refl _,rfl,zh (DivRel.start a hB0),hM⟩
 case round =>
  obtain ⟨k,t,q,r,ht,ht1,ht2,hk,rfl,hR,hS⟩:=hrel;clear hM
  by_cases h0:0 ≤ t
  ·obtain ⟨m,rfl⟩:∃ m,k = m + 1:=⟨k - 1,by have:=ht.out; omega⟩
   obtain rfl:t = (m:Int):=by have:=ht.out; omega
   obtain ⟨pb,po,rfl,hpb,hpa⟩:=HA.out.cell (i:=m) (by omega)
   have hyb:=HD.out.1.getD m;have hRy:=zh (fun (y:Int) (hy:a.getD m 0 = y) => And.intro (fun t0 => hR.out.step (by omega) y t0 hy) (hR.out.skip (by omega) y hy))
   generalize a.getD m 0 = y at *;have hRy2:=zh (hRy.out y rfl);have hr0:0 ≤ r ∧ r < val b:=by obtain ⟨_,_,_,_,_,e4,e5,_⟩:=hR.out; exact ⟨e4,e5⟩
   obtain ⟨y0,y1⟩:=hyb;obtain ⟨f1,f2,f3,f4,f5,f6,f7,f8,u,t,f9,f10,f11,f12,hrn⟩:=hS.out.facts;obtain ⟨rn,rp,rl,rc,e⟩:=hrn.shape;simp only [Value.agg.injEq,Array.mk.injEq,List.cons.injEq,and_true] at e;obtain ⟨rfl,rfl⟩:=e;have hpa:=cell_later f7 hpa;clear hRy ht h0;obtain ⟨rd,ri,rdg,rdv,rdl⟩:=zqsr (n:=n) hrn hr0.1 (by have:=hBn.out; omega)
   obtain ⟨aR,cR,e,-,-⟩:=id ri;simp only [Value.slice.injEq] at e;obtain ⟨rfl,rfl,rfl⟩:=e;have RI:=zh ri;have RD:=zh (And.intro rdg rdv);have hBn2:=hBn.out;clear ri rdg rdv hrn;have KMade:=zh (fun (ap:Option Addr) (ac:Nat) (w1:World) (h1:Ints .i64 w1 (.slice ap ([y] ++ rd).length ac) ([y] ++ rd)) (h2:Typed 3 w1 (.slice ap ([y] ++ rd).length ac)) => zq1z false ap ac ([y] ++ rd) w1 h1 h2 (RD.out.1.cons y0 y1) (by simp; omega))
   have HVal:Hid (signed false (val ([y] ++ rd)) = r * 1000 + y):=zh (by have:=zq01 y rd; rw [RD.out.2] at this; simp only [signed,cond_false]; show val (y :: rd) = _; omega)
   have hlo:w.heap.size + 1 + 1 + 1 + 1 + 1 ≤ wr.heap.size:=by have:=hS.out.1.2.2.2.2.2.2; omega
   have hRl:w0.heap.size < wr.heap.size:=by omega
   have hm0:(0:Int) ≤ (m:Int):=by omega
   have hm1:(m:Int) < (a.length:Int):=by omega
   have hm2:m < a.length:=by omega
   clear hBn2;go_upto_region 7 with fail;go_cut [39] (fun _ wx => Hid (DivState w w0.heap.size (.bool b1) (.slice (some ⟨pb,po,none⟩) a.length c1) (.bool b2) (.slice p2 b.length c2) q (r * 1000 + y) (w.heap.size + 1 + 1 + 1 + 1 + 1) wx))
   case first =>
    go_region_law (first
     | ((refine zqju _ (by rfl) _ _ _ (by rfl) wr.heap.size 3 i0 (.int .i64 0) 8 Tryz.underlying78 hi hz0 hz1 hz2 (by rfl) .i64 _ _ [y] rd (by rfl) (by rfl) ((World.ownsRow_lit wr #[.int .i64 y] 1 (Nat.le_refl _) (by unfold maxLen; omega) rfl).drew) (RI.out.below (zqab wr _).drew) (by unfold maxLen; simp; omega) (by simp; omega) (by simp) ?_; intro v2 w2 hown2 hg2; have hb2:=zqvj hg2; obtain ⟨ap,ac,rfl⟩:=zqbe hown2; have hi2:=Ints.own hown2; have ht2:=Typed.own hown2; have hf2:=zqym hown2 hlo))
     | (go_simp; go_at_call 196; refine (KMade.out _ _ _ hi2 ht2).mono ?_; rintro e w3 ⟨nb,nn,nc,rfl,hr3,hb3⟩; have hS3:=(hS.out.call hb2).call hb3; obtain ⟨-,-,-,-,-,-,-,-,u3,t3,g1,g2,g3,g4,-⟩:=hS3.facts))
    all_goals
     have hM3:=zh (hS3.set_r (HVal.out ▸ hr3) hf2.same);clear hS3 hr3 hi2 ht2 hown2 hg2;go_wp2_with fail;go_meet;exact hM3
   case rest =>
    clear RI RD KMade HVal hS f1 f2 f3 f4 f5 f6 f7 f9 f10 f11 f12 hpa hRl hlo f8;obtain ⟨f1,f2,f3,f4,f5,f6,f7,f8,u,t,f9,f10,f11,f12,hrn⟩:=hcut.out.facts;obtain ⟨rn,rp,rl,rc,e⟩:=hrn.shape;simp only [Value.agg.injEq,Array.mk.injEq,List.cons.injEq,and_true] at e;obtain ⟨rfl,rfl⟩:=e;have hr10:0 ≤ r * 1000 + y:=by omega
    have hr11:Hid (r * 1000 + y ≤ 1000 * val b ∧ r * 1000 + y < (999 + 1) * val b):=zh ⟨by omega,hR.out.first y1⟩
    have hsk:=zh (fun h => hRy2.out.2 y0 h)
    have hst:=zh (fun t0 => hRy2.out.1 t0)
    clear hRy2 hR hr0;generalize r * 1000 + y = r1 at *;have hs1:Hid (Sized (n + 2) r1):=zh (zqc0 hr10 (val b) hr11.out.1 hBn.out);have hsB:Hid (Sized (n + 2) (val b)):=zh (zqc0 (by omega) (val b) (by omega) hBn.out)
    have HC:=zh (zqen _ _ r1 (val b) (n + 2) _ hrn (HDn.out _ f7) hs1.out hsB.out (by omega))
    have HRN:=zh hrn;clear hrn
    by_cases hlt:r1 < val b
    ·have hc:cmpI r1 (val b) < 0:=by rw [zqdq hlt]; decide
     have hR2:=zh (hsk.out hlt);generalize cmpI r1 (val b) = cc at *;go_wp2_with fail;refine (HC.out).mono ?_; rintro e w2 ⟨rfl,hb2⟩;have hS2:=zh (hcut.out.call hb2).low;clear hcut HC HRN hb2;go_wp2_with fail;go_roundw
     case rel => exact ⟨m,(m:Int) - 1,q,r1,zh rfl,by omega,by omega,by omega,rfl,hR2,hS2⟩
     case measure => simp [intOf]
    ·have hc:¬ cmpI r1 (val b) < 0:=fun e => by have:=(zqc6 (x:=r1) (y:=val b)).2 (by omega); omega
     generalize cmpI r1 (val b) = cc at *;go_wp2_with fail;refine (HC.out).mono ?_; rintro e w2 ⟨rfl,hb2⟩;have hS2:=zh (hcut.out.call hb2);clear hcut HC HRN hb2 f1 f2 f3 f4 f5 f6 f7 f8 f9 f10 f11 f12;go_wp2_with fail;go_loopw [10,11] (fun lo hi wr => ∃ l h:Int,lo = .int .i64 l ∧ hi = .int .i64 h ∧ 1 ≤ l ∧ l ≤ h ∧ h ≤ 999 ∧ Hid (l * val b ≤ r1 ∧ r1 < (h + 1) * val b) ∧
       Hid (DivState w w0.heap.size (.bool b1) (.slice (some ⟨pb,po,none⟩) a.length c1) (.bool b2) (.slice p2 b.length c2) q r1 (w.heap.size + 1 + 1 + 1 + 1 + 1) wr)) (fun lo hi _ => (intOf hi - intOf lo).toNat)
     case atStart => exact ⟨1,999,rfl,rfl,by omega,by omega,by omega,zh ⟨by omega,hr11.out.2⟩,hS2⟩
     case round =>
      obtain ⟨l,h,rfl,rfl,l1,l2,l3,hlh,hT⟩:=hrel;clear hS2;obtain ⟨-,-,-,-,f5,f6,f7,f8,u,t,f9,f10,f11,f12,hrn⟩:=hT.out.facts;obtain ⟨rn,rp,rl,rc,e⟩:=hrn.shape;simp only [Value.agg.injEq,Array.mk.injEq,List.cons.injEq,and_true] at e;obtain ⟨rfl,rfl⟩:=e;have HRN:=zh hrn;have HDB:=zh (HDn.out _ f7);clear hrn
      by_cases hll:l < h
      ·go_upto_region 12 with fail;have hm1:l < (l + h + 1) / 2:=by omega
       have hm2:(l + h + 1) / 2 ≤ h:=by omega
       generalize (l + h + 1) / 2 = mid at *;have hbm0:0 ≤ val b * mid:=Int.mul_nonneg (by omega) (by omega)
       have hbm1:val b * mid ≤ val b * 1000:=Int.mul_le_mul_of_nonneg_left (by omega) (by omega)
       have hsm:Hid (Sized (n + 2) (val b * mid)):=zh (zqc0 hbm0 (val b) (by omega) hBn.out)
       have KN:=zh (fun w1 => zqbo mid w1 (by omega) (by omega))
       have KM:=zh (fun w1 o (hb:Below wr.heap.size wr w1) (ho:IsNum w1 o mid) => zqb1 _ o (val b) mid (n + 10) w1 (HDB.out.below hb) ho (hsB.out.mono (by omega)) ((sized8 (by omega) (by omega)).mono (by omega)) (by omega))
       have KC:=zh (fun w1 p (hb:Below wr.heap.size wr w1) (hp:IsNum w1 p (val b * mid)) => zqen p _ (val b * mid) r1 (n + 2) w1 hp (HRN.out.below hb) hsm.out hs1.out (by omega))
       have hcm:=zh (zq05 (x:=val b * mid) (y:=r1));have hcomm:=zh (Int.mul_comm (val b) mid);clear hbm0 hbm1;have hm3:0 ≤ mid:=by omega
       have hm4:mid ≤ 999:=by omega
       generalize cmpI (val b * mid) r1 = cc at *;have hwm:IntKind.u64.wrap mid = mid:=by rw [IntKind.wrap_u64]; omega
       have hF:Four w0.heap.size (.bool rn) (.slice rp rl rc) (.bool false) (.slice p2 b.length c2) wr.drew:=⟨f9,f10,f5,f6⟩;have hBw:Below wr.heap.size wr wr.drew:=(Below.refl _ _).drew;go_region_held3 (fun w' => w'.cell? ⟨w0.heap.size,0,none⟩ = some (.bool rn) ∧ w'.cell? ⟨w0.heap.size,1,none⟩ = some (.slice rp rl rc) ∧ w'.cell? ⟨w0.heap.size + 1,0,none⟩ = some (.bool false) ∧ w'.cell? ⟨w0.heap.size + 1,1,none⟩ = some (.slice p2 b.length c2))
        (exact hF)
        (first
         | (go_at_call 195; refine (KN.out _).mono ?_; rintro e w3 ⟨o,rfl,ho,hb3⟩; have hF:=hF.call hb3; have hBw:=hBw.trans (hb3.mono hBw.size))
         | (go_at_call 154; refine (KM.out _ _ hBw ho).mono ?_; rintro e w4 ⟨p,rfl,hp,hb4⟩; have hF:=hF.call hb4; have hBw:=hBw.trans (hb4.mono hBw.size))
         | (go_at_call 204; refine (KC.out _ _ hBw hp).mono ?_; rintro e w5 ⟨rfl,hb5⟩; have hF:=hF.call hb5; have hBw:=hBw.trans (hb5.mono hBw.size)))
       have hT2:=zh (hT.out.call hBw);clear hF hBw hb3 hb4 hb5 ho hp KN KM KC hT hwm
       by_cases hle:cc ≤ 0
       ·have hlh2:Hid (mid * val b ≤ r1 ∧ r1 < (h + 1) * val b):=zh ⟨by rw [← hcomm.out]; exact hcm.out.1 hle,hlh.out.2⟩
        clear hcm;go_wp2_with fail;go_roundw
        case rel => exact ⟨mid,h,rfl,rfl,by omega,by omega,by omega,hlh2,hT2⟩
        case measure => simp [intOf]; omega
       ·have hlh2:Hid (l * val b ≤ r1 ∧ r1 < (mid - 1 + 1) * val b):=zh ⟨hlh.out.1,by
         rw [Int.sub_add_cancel,← hcomm.out]
         by_cases e:val b * mid ≤ r1
         ·exact absurd (hcm.out.2 e) hle
         ·omega⟩
        clear hcm;go_wp2_with fail;go_roundw
        case rel => exact ⟨l,mid - 1,rfl,rfl,by omega,by omega,by omega,hlh2,hT2⟩
        case measure => simp [intOf]; omega
      ·obtain rfl:l = h:=by omega
       have hql:q.length = a.length:=by obtain ⟨_,_,_,_,_,_,_,_,e7,_⟩:=(hst.out l (by omega) (by omega) hlh.out.1 hlh.out.2); simpa using e7
       obtain ⟨qc,qf⟩:=hT.out.q_cell (j:=m) (by omega)
       have hR3:=zh (hst.out l (by omega) (by omega) hlh.out.1 hlh.out.2)
       have hT3:=zh (hT.out.set_q (Nat.le_refl _) m l);have hbl1:l * val b ≤ r1:=hlh.out.1;have hbl0:0 ≤ l * val b:=Int.mul_nonneg (by omega) (by omega)
       have HQL:=zh hql;have hlw:IntKind.u64.wrap l = l:=by rw [IntKind.wrap_u64]; omega
       have hm5:(0:Int) ≤ (m:Int):=by omega
       have hm6:(m:Int) < (a.length:Int):=by omega
       have hm7:m < a.length:=by omega
       clear hT hql hlh hst hsk f5 f6 f7 f9 f10 f11 f12 HRN HDB;obtain ⟨-,-,-,-,f5,f6,f7,f8',u,t,f9,f10,f11,f12,hrn⟩:=hT3.out.facts;obtain ⟨rn,rp,rl,rc,e⟩:=hrn.shape;simp only [Value.agg.injEq,Array.mk.injEq,List.cons.injEq,and_true] at e;obtain ⟨rfl,rfl⟩:=e;have HRN:=zh hrn;have HDB:=zh (HDn.out _ f7);clear hrn f7;go_upto_region 16 with fail;clear qc qf hm5 hm6 hm7;have hZ:=zh (show val (q) = val q from rfl);generalize wr.setCell ⟨w.heap.size + 1 + 1 + 1 + 1,m,none⟩ (.int .i64 l) = w6 at *;have KN:=zh (fun w1 => zqbo l w1 (by omega) (by omega))
       have KM:=zh (fun w1 o (hb:Below w6.heap.size w6 w1) (ho:IsNum w1 o l) => (zqb1 _ o (val b) l (n + 10) w1 (HDB.out.below hb) ho (hsB.out.mono (by omega)) ((sized8 (by omega) (by omega)).mono (by omega)) (by omega)).mono (MadeNum.to (z':=l * val b) (Int.mul_comm _ _)))
       have hsl:Hid (Sized (n + 2) (l * val b)):=zh (zqc0 hbl0 (val b) (by have:=hr11.out.1; omega) hBn.out)
       have KS:=zh (fun w1 p (hb:Below w6.heap.size w6 w1) (hp:IsNum w1 p (l * val b)) => zqgb _ p r1 (l * val b) (n + 2) w1 (HRN.out.below hb) hp hs1.out hsl.out (by omega))
       have hF:Four w0.heap.size (.bool rn) (.slice rp rl rc) (.bool false) (.slice p2 b.length c2) w6.drew:=⟨f9,f10,f5,f6⟩;have hBw:Below w6.heap.size w6 w6.drew:=(Below.refl _ _).drew;go_region_with (first
        | (go_at_call 195; refine (KN.out _).mono ?_; rintro e w7 ⟨o,rfl,ho,hb7⟩; have hF:=hF.call hb7; have hBw:=hBw.trans (hb7.mono hBw.size); obtain ⟨g1,g2,g3,g4⟩:=id hF)
        | (go_at_call 154; refine (KM.out _ _ hBw ho).mono ?_; rintro e w8 ⟨p,rfl,hp,hb8⟩; have hF:=hF.call hb8; have hBw:=hBw.trans (hb8.mono hBw.size); obtain ⟨g1,g2,g3,g4⟩:=id hF)
        | (go_at_call 290; refine (KS.out _ _ hBw hp).mono ?_; rintro e w9 ⟨rr,rfl,hrr,hb9⟩; have hBw:=hBw.trans (hb9.mono hBw.size); have hS9:=hT3.out.call hBw; obtain ⟨xb,xp,xl,xc,rfl⟩:=hrr.shape; obtain ⟨-,-,-,-,-,-,-,-,u9,t9,k1,k2,k3,k4,-⟩:=hS9.facts))
       all_goals
        have hS10:=zh (hS9.set_r (lo':=0) hrr (fun b off l c e => Nat.zero_le _))
        clear hS9 hrr hBw hF;go_wp2_with fail;go_roundw
        case rel => exact ⟨m,(m:Int) - 1,_,_,zh rfl,by omega,by omega,by omega,rfl,hR3,hS10⟩
        case measure => simp [intOf]
  ·obtain rfl:k = 0:=by have:=ht.out; omega
   obtain ⟨e1,e2,e3,e4,e5,e6⟩:=hR.out.stop;have hfl:=zh (zqoa b1 b2 (val a) (val b) (val q) r e1 e2 e3);obtain ⟨f1,f2,f3,f4,f5,f6,f7,f8,u,t,f9,f10,f11,f12,hrn⟩:=hS.out.facts;have hrl:∃ ub tp tl tc,u = .bool ub ∧ t = .slice tp tl tc ∧ (0 < tl ↔ 0 < r):=by
    obtain ⟨nb,sl,rd,e,⟨ra,rcap,rfl,-⟩,-,rdg,rty,rnn,hre⟩:=hrn;simp only [Value.agg.injEq,Array.mk.injEq,List.cons.injEq,and_true] at e;refine ⟨nb,ra,rd.length,rcap,e.1,e.2,?_⟩;have h1:=(rty.zero rdg);have h2:=(zqbj rdg).1;have h3:r = val rd:=by
     cases nb
     ·simpa [signed] using hre
     ·have:=rty.pos rdg (rnn rfl); simp [signed] at hre; omega
    rw [h3]
    constructor
    ·intro hl; exact rty.pos rdg (fun e => by rw [e] at hl; simp at hl)
    ·intro hp; by_cases hr0:rd = []
     ·rw [h1.2 hr0] at hp; omega
     ·exact List.length_pos_iff.2 hr0
   obtain ⟨ub,tp,tl,tc,rfl,rfl,hrl⟩:=hrl;have KMade:=zh (zqch (!(b1 == b2)) _ q wr (Ints.own hS.out.2.2) (Typed.own hS.out.2.2) e4 (by omega))
   rw [e5] at KMade;have hqs:Hid (val q < 1000 ^ n):=zh (by
    have h1:=(zqbj e4).2;have h2:=zqdk (m:=q.length) (n:=n) (by omega)
    omega)
   have HRL:=zh hrl;have HS:=zh hS.out.1;have HQ0:=zh (And.intro e6 (And.intro e2 (And.intro e3 e1)));clear hR hS e1 e2 e3 e4 e5 e6 hrn hrl f5 f6 f11 f12;go_wp2_with fail;refine (KMade.out).mono ?_; rintro e w1 ⟨xv,rfl,hx,hb1⟩;obtain ⟨xb,xp,xl,xc,rfl⟩:=hx.shape;have g1:=cell_later hb1 f1;have g2:=cell_later hb1 f2;have g3:=cell_later hb1 f3;have g4:=cell_later hb1 f4;have g10:=cell_later hb1 f10;have hzz:=hb1.size;have HS1:=zh (HS.out.call hb1);have HX:=zh hx;clear f1 f2 f3 f4 f9 f10 hx hb1 KMade HS;have l2:w.heap.size + 1 < w1.heap.size:=by have:=HS1.out.2.2.2.2.2.2; omega
   have l1:w.heap.size < w1.heap.size:=by omega
   have l3:w0.heap.size < w1.heap.size:=by omega
   have l4:w.heap.size + 1 + 1 + 1 < w1.heap.size:=by have:=HS1.out.2.2.2.2.2.2; omega
   have hcase:b1 = b2 ∨ b1 ≠ b2 ∧ (tl = 0 ∨ 0 < tl):=by
    by_cases e:b1 = b2
    ·exact .inl e
    ·exact .inr ⟨e,by omega⟩
   have HMeet:=zh (fun (wz:World) (z0 z1:Value) (hb:Below w1.heap.size w1 wz) (k1:wz.cell? ⟨w1.heap.size,0,none⟩ = some z0) (k2:wz.cell? ⟨w1.heap.size,1,none⟩ = some z1) (hz:IsNum wz (.agg #[z0,z1]) ((signed b1 (val a)).fdiv (signed b2 (val b)))) =>
    (⟨⟨k1,k2,cell_later hb g1,cell_later hb g2,cell_later hb g3,cell_later hb g4⟩,hz,HS1.out.call hb⟩:Six w1.heap.size w.heap.size z0 z1 (.bool b1) (.slice p1 a.length c1) (.bool b2) (.slice p2 b.length c2) wz ∧ IsNum wz (.agg #[z0,z1]) ((signed b1 (val a)).fdiv (signed b2 (val b))) ∧ DivFix w w0.heap.size (.bool b1) (.slice p1 a.length c1) (.bool b2) (.slice p2 b.length c2) wz))
   have HFin:=zh (show b1 = b2 → signed (!(b1 == b2)) (val q) = (signed b1 (val a)).fdiv (signed b2 (val b)) from fun e => by subst e; simp only [beq_self_eq_true,Bool.not_true,signed,cond_false]; exact ((hfl.out.1 rfl).1).symm)
   rcases hcase with hbe | ⟨hne,htl⟩
   ·have hfx:=zh (HFin.out hbe);have hbn:(!(b1 == b2)) = false:=by simp [hbe]
    clear hbe;go_upto_region 20 with fail;have hm:=HMeet.out (w1.alloc (.cells #[.bool xb,.slice xp xl xc] 112)) (.bool xb) (.slice xp xl xc) (zqab w1 _) (by simp [go_sem]) (by simp [go_sem]) (hfx.out ▸ HX.out.below (zqab w1 _))
    obtain ⟨hsix,hzn,hfix⟩:=hm;have HZN:=zh hzn;have HFX:=zh hfix;have HUz:=zh (HU.out.below hfix.2.2.2.2.2.1);have HVz:=zh (HV.out.below hfix.2.2.2.2.2.1);clear hzn hfix HX HMeet HFin hfx;generalize w1.alloc (.cells #[.bool xb,.slice xp xl xc] 112) = wz at *;have hDS:=zqhk HSX.out.1 HSX.out.2 (show signed b2 (val b) ≠ 0 by have:=hB0; cases b2 <;> simp [signed] <;> omega)
    have HDS:=zh hDS;clear hDS;have KMul:=zh (fun w1 (hb:Below wz.heap.size wz w1) => zqb1 _ _ _ _ (n + 1) w1 (HZN.out.below hb) (HVz.out.below hb) HDS.out.2.1 (HSX.out.2.mono (by omega)) (by omega))
    have KSub:=zh (fun w1 p (hb:Below wz.heap.size wz w1) (hp:IsNum w1 p ((signed b1 (val a)).fdiv (signed b2 (val b)) * signed b2 (val b))) => (zqgb _ p _ _ (n + 1) w1 (HUz.out.below hb) hp (HSX.out.1.mono (by omega)) HDS.out.1 (by omega)).mono (MadeNum.to HDS.out.2.2))
    generalize (signed b1 (val a)).fdiv (signed b2 (val b)) = dv at *;generalize (signed b1 (val a)).fmod (signed b2 (val b)) = md at *;have n1:w.heap.size + 1 + 1 ≠ w1.heap.size:=by omega
    have n2:w.heap.size + 1 + 1 ≠ w.heap.size:=by omega
    have n3:w.heap.size + 1 + 1 ≠ w.heap.size + 1:=by omega
    have n4:w.heap.size + 1 + 1 + 1 ≠ w1.heap.size:=by omega
    have n5:w.heap.size + 1 + 1 + 1 ≠ w.heap.size:=by omega
    have n6:w.heap.size + 1 + 1 + 1 ≠ w.heap.size + 1:=by omega
    clear g1 g2 g3 g4 f7 f8 hzz hfl HQ0 HRL HDn HA HD;have hk:=Six.call hsix (Below.refl _ _).drew;have hBw:Below wz.heap.size wz wz.drew:=(Below.refl _ _).drew;go_region_held3 (fun w' => w'.cell? ⟨w1.heap.size,0,none⟩ = some (.bool xb) ∧ w'.cell? ⟨w1.heap.size,1,none⟩ = some (.slice xp xl xc) ∧ w'.cell? ⟨w.heap.size,0,none⟩ = some (.bool b1) ∧ w'.cell? ⟨w.heap.size,1,none⟩ = some (.slice p1 a.length c1) ∧ w'.cell? ⟨w.heap.size + 1,0,none⟩ = some (.bool b2) ∧ w'.cell? ⟨w.heap.size + 1,1,none⟩ = some (.slice p2 b.length c2))
     (first | with_reducible exact hk | with_reducible exact Six.store hk n1 n2 n3 _ _ | with_reducible exact Six.store (Six.store hk n1 n2 n3 _ _) n4 n5 n6 _ _)
     (first
      | (go_at_call 154; refine (KMul.out _ hBw).mono ?_; rintro e w3 ⟨pv,rfl,hp,hb3⟩; have hk:=Six.call hk hb3; have hBw:=hBw.trans (hb3.mono hBw.size))
      | (go_at_call 290; refine (KSub.out _ _ hBw hp).mono ?_; rintro e w4 ⟨rv,rfl,hr,hb4⟩; have hk:=Six.call hk hb4; have hBw:=hBw.trans (hb4.mono hBw.size); obtain ⟨yb,yp,yl,yc,rfl⟩:=hr.shape; have hF4:=HFX.out.call hBw; obtain ⟨-,-,⟨o1,o2,ho⟩,⟨o3,o4,ho'⟩,-,-⟩:=id hF4; obtain ⟨k1,k2,k3,k4⟩:=zqbk ho; obtain ⟨k5,k6,k7,k8⟩:=zqbk ho'))
    have hO:=zqlc hF4 (.bool xb) (.slice xp xl xc) (.bool yb) (.slice yp yl yc);have hN1:=hO.1 _ _ (HZN.out.below hBw);have hN2:=hO.1 _ _ hr;have hN3:=hO.2;clear hO hF4 hr hk hBw HFX HZN HUz HVz KMul KSub hb3 hb4 hp ho ho';go_wp2_with fail;exact bodyPost_ret (v:=.tuple #[.agg #[.bool xb,.slice xp xl xc],.agg #[.bool yb,.slice yp yl yc]]) (by simp [results,Tryz.results284,go_sem,k1,k2,k5,k6]) rfl ⟨_,_,rfl,hN1,hN2,hN3⟩
   ·rcases htl with rfl | htl
    ·have hr0:r = 0:=by
      have h1:=HRL.out;have h2:=HQ0.out.2.1
      by_cases hp:0 < r
      ·exact absurd (h1.2 hp) (by omega)
      ·omega
     have hfx:Hid (signed (!(b1 == b2)) (val q) = (signed b1 (val a)).fdiv (signed b2 (val b))):=zh (by
      have hb:(!(b1 == b2)) = true:=by simp [hne]
      rw [hb,(hfl.out.2.1 hne hr0).1]; rfl)
     have hbn:(!(b1 == b2)) = true:=by simp [hne]
     clear hne hr0;go_upto_region 20 with fail;have hm:=HMeet.out (w1.alloc (.cells #[.bool xb,.slice xp xl xc] 112)) (.bool xb) (.slice xp xl xc) (zqab w1 _) (by simp [go_sem]) (by simp [go_sem]) (hfx.out ▸ HX.out.below (zqab w1 _))
     obtain ⟨hsix,hzn,hfix⟩:=hm;have HZN:=zh hzn;have HFX:=zh hfix;have HUz:=zh (HU.out.below hfix.2.2.2.2.2.1);have HVz:=zh (HV.out.below hfix.2.2.2.2.2.1);clear hzn hfix HX HMeet HFin hfx;generalize w1.alloc (.cells #[.bool xb,.slice xp xl xc] 112) = wz at *;have hDS:=zqhk HSX.out.1 HSX.out.2 (show signed b2 (val b) ≠ 0 by have:=hB0; cases b2 <;> simp [signed] <;> omega)
     have HDS:=zh hDS;clear hDS;have KMul:=zh (fun w1 (hb:Below wz.heap.size wz w1) => zqb1 _ _ _ _ (n + 1) w1 (HZN.out.below hb) (HVz.out.below hb) HDS.out.2.1 (HSX.out.2.mono (by omega)) (by omega))
     have KSub:=zh (fun w1 p (hb:Below wz.heap.size wz w1) (hp:IsNum w1 p ((signed b1 (val a)).fdiv (signed b2 (val b)) * signed b2 (val b))) => (zqgb _ p _ _ (n + 1) w1 (HUz.out.below hb) hp (HSX.out.1.mono (by omega)) HDS.out.1 (by omega)).mono (MadeNum.to HDS.out.2.2))
     generalize (signed b1 (val a)).fdiv (signed b2 (val b)) = dv at *;generalize (signed b1 (val a)).fmod (signed b2 (val b)) = md at *;have n1:w.heap.size + 1 + 1 ≠ w1.heap.size:=by omega
     have n2:w.heap.size + 1 + 1 ≠ w.heap.size:=by omega
     have n3:w.heap.size + 1 + 1 ≠ w.heap.size + 1:=by omega
     have n4:w.heap.size + 1 + 1 + 1 ≠ w1.heap.size:=by omega
     have n5:w.heap.size + 1 + 1 + 1 ≠ w.heap.size:=by omega
     have n6:w.heap.size + 1 + 1 + 1 ≠ w.heap.size + 1:=by omega
     clear g1 g2 g3 g4 f7 f8 hzz hfl HQ0 HRL HDn HA HD;have hk:=Six.call hsix (Below.refl _ _).drew;have hBw:Below wz.heap.size wz wz.drew:=(Below.refl _ _).drew;go_region_held3 (fun w' => w'.cell? ⟨w1.heap.size,0,none⟩ = some (.bool xb) ∧ w'.cell? ⟨w1.heap.size,1,none⟩ = some (.slice xp xl xc) ∧ w'.cell? ⟨w.heap.size,0,none⟩ = some (.bool b1) ∧ w'.cell? ⟨w.heap.size,1,none⟩ = some (.slice p1 a.length c1) ∧ w'.cell? ⟨w.heap.size + 1,0,none⟩ = some (.bool b2) ∧ w'.cell? ⟨w.heap.size + 1,1,none⟩ = some (.slice p2 b.length c2))
      (first | with_reducible exact hk | with_reducible exact Six.store hk n1 n2 n3 _ _ | with_reducible exact Six.store (Six.store hk n1 n2 n3 _ _) n4 n5 n6 _ _)
      (first
       | (go_at_call 154; refine (KMul.out _ hBw).mono ?_; rintro e w3 ⟨pv,rfl,hp,hb3⟩; have hk:=Six.call hk hb3; have hBw:=hBw.trans (hb3.mono hBw.size))
       | (go_at_call 290; refine (KSub.out _ _ hBw hp).mono ?_; rintro e w4 ⟨rv,rfl,hr,hb4⟩; have hk:=Six.call hk hb4; have hBw:=hBw.trans (hb4.mono hBw.size); obtain ⟨yb,yp,yl,yc,rfl⟩:=hr.shape; have hF4:=HFX.out.call hBw; obtain ⟨-,-,⟨o1,o2,ho⟩,⟨o3,o4,ho'⟩,-,-⟩:=id hF4; obtain ⟨k1,k2,k3,k4⟩:=zqbk ho; obtain ⟨k5,k6,k7,k8⟩:=zqbk ho'))
     have hO:=zqlc hF4 (.bool xb) (.slice xp xl xc) (.bool yb) (.slice yp yl yc);have hN1:=hO.1 _ _ (HZN.out.below hBw);have hN2:=hO.1 _ _ hr;have hN3:=hO.2;clear hO hF4 hr hk hBw HFX HZN HUz HVz KMul KSub hb3 hb4 hp ho ho';go_wp2_with fail;exact bodyPost_ret (v:=.tuple #[.agg #[.bool xb,.slice xp xl xc],.agg #[.bool yb,.slice yp yl yc]]) (by simp [results,Tryz.results284,go_sem,k1,k2,k5,k6]) rfl ⟨_,_,rfl,hN1,hN2,hN3⟩
    ·have hrp:0 < r:=HRL.out.1 htl;have hb:(!(b1 == b2)) = true:=by simp [hne]
     have hfx:Hid (-val q - 1 = (signed b1 (val a)).fdiv (signed b2 (val b))):=zh ((hfl.out.2.2 hne hrp).1).symm;have HX2:Hid (IsNum w1 (.agg #[.bool xb,.slice xp xl xc]) (-val q)):=zh (by have:=HX.out; rw [hb] at this; exact this)
     have hbn:(!(b1 == b2)) = true:=hb;have htl2:(0:Int) < (tl:Int):=by omega
     clear hne hrp hb htl;go_upto_region 19 with fail;have KN:=zh (fun w2 => zqbo 1 w2 (by decide) (by decide))
     have KS:=zh (fun w2 o (hb:Below w1.heap.size w1 w2) (ho:IsNum w2 o 1) => zqgb _ o (-val q) 1 (n + 8) w2 (HX2.out.below hb) ho (by
      have h1:=hqs.out;have h2:=HQ0.out.1;have h3:=zqdk (m:=n) (n:=n + 8) (by omega)
      exact ⟨by omega,by omega⟩) ((sized8 (by decide) (by decide)).mono (by omega)) (by omega))
     have hk0:=(Kept.start w1 (.bool xb) (.slice xp xl xc) 112).call (Below.refl _ _).drew;go_region_with (first
      | (go_at_call 195; refine (KN.out _).mono ?_; rintro e w2 ⟨o,rfl,ho,hb2⟩; have hk:=hk0.call hb2; have j1:=cell_later hb2 (show (w1.alloc (.cells #[.bool xb,.slice xp xl xc] 112)).drew.cell? ⟨w1.heap.size,0,none⟩ = some (.bool xb) by simp [go_sem]); have j2:=cell_later hb2 (show (w1.alloc (.cells #[.bool xb,.slice xp xl xc] 112)).drew.cell? ⟨w1.heap.size,1,none⟩ = some (.slice xp xl xc) by simp [go_sem]))
      | (go_at_call 290; refine (KS.out _ _ hk.1 ho).mono ?_; rintro e w3 ⟨nv,rfl,hnv,hb3⟩; have hk3:=hk.call hb3; obtain ⟨xb',xp',xl',xc',rfl⟩:=hnv.shape; obtain ⟨⟨s1,hs1⟩,⟨s2,hs2⟩,hs3,hs4⟩:=hk3.cells))
     all_goals
      have hk4:=(hk3.store (.bool xb') (.slice xp' xl' xc')).1;have hcc:=zqtd hk3 (.bool xb') (.slice xp' xl' xc');have hm:=HMeet.out _ (.bool xb') (.slice xp' xl' xc') hk4 hcc.1 hcc.2 (hfx.out ▸ hk3.num hnv);clear hk hk3 hk0 hnv hb2 hb3 hk4 hcc hs1 hs2 hs3 hs4 j1 j2 ho KN KS HX2;go_upto_region 20 with fail;obtain ⟨hsix,hzn,hfix⟩:=hm;have HZN:=zh hzn;have HFX:=zh hfix;have HUz:=zh (HU.out.below hfix.2.2.2.2.2.1);have HVz:=zh (HV.out.below hfix.2.2.2.2.2.1);clear hzn hfix HMeet HFin hfx;generalize (w3.setCell ⟨w1.heap.size,0,none⟩ (.bool xb')).setCell ⟨w1.heap.size,1,none⟩ (.slice xp' xl' xc') = wz at *;have hDS:=zqhk HSX.out.1 HSX.out.2 (show signed b2 (val b) ≠ 0 by have:=hB0; cases b2 <;> simp [signed] <;> omega)
      have HDS:=zh hDS;clear hDS;have KMul:=zh (fun w1 (hb:Below wz.heap.size wz w1) => zqb1 _ _ _ _ (n + 1) w1 (HZN.out.below hb) (HVz.out.below hb) HDS.out.2.1 (HSX.out.2.mono (by omega)) (by omega))
      have KSub:=zh (fun w1 p (hb:Below wz.heap.size wz w1) (hp:IsNum w1 p ((signed b1 (val a)).fdiv (signed b2 (val b)) * signed b2 (val b))) => (zqgb _ p _ _ (n + 1) w1 (HUz.out.below hb) hp (HSX.out.1.mono (by omega)) HDS.out.1 (by omega)).mono (MadeNum.to HDS.out.2.2))
      generalize (signed b1 (val a)).fdiv (signed b2 (val b)) = dv at *;generalize (signed b1 (val a)).fmod (signed b2 (val b)) = md at *;have n1:w.heap.size + 1 + 1 ≠ w1.heap.size:=by omega
      have n2:w.heap.size + 1 + 1 ≠ w.heap.size:=by omega
      have n3:w.heap.size + 1 + 1 ≠ w.heap.size + 1:=by omega
      have n4:w.heap.size + 1 + 1 + 1 ≠ w1.heap.size:=by omega
      have n5:w.heap.size + 1 + 1 + 1 ≠ w.heap.size:=by omega
      have n6:w.heap.size + 1 + 1 + 1 ≠ w.heap.size + 1:=by omega
      clear g1 g2 g3 g4 f7 f8 hzz hfl HQ0 HRL HDn HA HD;have hk:=Six.call hsix (Below.refl _ _).drew;have hBw:Below wz.heap.size wz wz.drew:=(Below.refl _ _).drew;go_region_held3 (fun w' => w'.cell? ⟨w1.heap.size,0,none⟩ = some (.bool xb') ∧ w'.cell? ⟨w1.heap.size,1,none⟩ = some (.slice xp' xl' xc') ∧ w'.cell? ⟨w.heap.size,0,none⟩ = some (.bool b1) ∧ w'.cell? ⟨w.heap.size,1,none⟩ = some (.slice p1 a.length c1) ∧ w'.cell? ⟨w.heap.size + 1,0,none⟩ = some (.bool b2) ∧ w'.cell? ⟨w.heap.size + 1,1,none⟩ = some (.slice p2 b.length c2))
       (first | with_reducible exact hk | with_reducible exact Six.store hk n1 n2 n3 _ _ | with_reducible exact Six.store (Six.store hk n1 n2 n3 _ _) n4 n5 n6 _ _)
       (first
        | (go_at_call 154; refine (KMul.out _ hBw).mono ?_; rintro e w3 ⟨pv,rfl,hp,hb3⟩; have hk:=Six.call hk hb3; have hBw:=hBw.trans (hb3.mono hBw.size))
        | (go_at_call 290; refine (KSub.out _ _ hBw hp).mono ?_; rintro e w4 ⟨rv,rfl,hr,hb4⟩; have hk:=Six.call hk hb4; have hBw:=hBw.trans (hb4.mono hBw.size); obtain ⟨yb,yp,yl,yc,rfl⟩:=hr.shape; have hF4:=HFX.out.call hBw; obtain ⟨-,-,⟨o1,o2,ho⟩,⟨o3,o4,ho'⟩,-,-⟩:=id hF4; obtain ⟨k1,k2,k3,k4⟩:=zqbk ho; obtain ⟨k5,k6,k7,k8⟩:=zqbk ho'))
      have hO:=zqlc hF4 (.bool xb') (.slice xp' xl' xc') (.bool yb) (.slice yp yl yc);have hN1:=hO.1 _ _ (HZN.out.below hBw);have hN2:=hO.1 _ _ hr;have hN3:=hO.2;clear hO hF4 hr hk hBw HFX HZN HUz HVz KMul KSub hb3 hb4 hp ho ho';go_wp2_with fail;exact bodyPost_ret (v:=.tuple #[.agg #[.bool xb',.slice xp' xl' xc'],.agg #[.bool yb,.slice yp yl yc]]) (by simp [results,Tryz.results284,go_sem,k1,k2,k5,k6]) rfl ⟨_,_,rfl,hN1,hN2,hN3⟩
end Go.Proofs.YtpgchfihedcdkaaGreatDoor
namespace Go.Proofs.YtpgchfihedcdkaaGreatDoor
set_option maxRecDepth 100000
open Go.RowKit
set_option linter.unusedVariables false
set_option maxRecDepth 100000
open Go.RowKit
set_option linter.unusedVariables false
set_option maxRecDepth 100000
open Go.RowKit
set_option linter.unusedVariables false
set_option maxRecDepth 100000
open Go.RowKit
set_option linter.unusedVariables false
def v10:List Int → Int
 | [] => 0
 | d :: t => d + 10 * v10 t
end Go.Proofs.YtpgchfihedcdkaaGreatDoor
