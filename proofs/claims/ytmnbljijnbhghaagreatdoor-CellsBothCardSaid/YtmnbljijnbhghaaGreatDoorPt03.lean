/- Contracts that the law leans on: Refd. -/
import Derived.WalkKit
import Derived.WalkSpells
import Derived.WalkLawsBesides
import Derived.WalkSmall
import Derived.Deep.QuietTactic
import Derived.BigQuiet
import Derived.Lib.Hide
import Derived.Deep.RegionHeld3
import Derived.Deep.DeepCutAuto
import Derived.Test.YtmnbljijnbhghaaGreatDoorProg
import Derived.Test.YtmnbljijnbhghaaGreatDoorPt02
namespace Go.Proofs.YtmnbljijnbhghaaGreatDoor
set_option maxRecDepth 100000
open Go.RowKit
theorem Ints.below {k:IntKind} {w w':World} {v:Value} {zs:List Int} (h:Ints k w v zs) (hb:Below w.heap.size w w'):Ints k w' v zs:=by
 obtain ⟨a,cap,rfl,hc,ha⟩:=h;refine ⟨a,cap,rfl,hc,?_⟩;rcases ha with h | ⟨b,off,rfl,hbl,hcell⟩
 ·exact .inl h
 ·exact .inr ⟨b,off,rfl,by have:=hb.size; omega,fun i hi => cell_later hb (hcell i hi)⟩
theorem Ints.cell {k:IntKind} {w:World} {zs:List Int} {a:Option Addr} {l cap:Nat} (h:Ints k w (.slice a l cap) zs) {i:Nat} (hi:i < zs.length) :
  ∃ b off,a = some ⟨b,off,none⟩ ∧ b < w.heap.size ∧ w.cell? ⟨b,off + i,none⟩ = some (.int k (zs.getD i 0)):=by
 obtain ⟨a',cap',e,hc,ha⟩:=h;simp only [Value.slice.injEq] at e;obtain ⟨rfl,rfl,rfl⟩:=e;rcases ha with h | ⟨b,off,rfl,hbl,hcell⟩
 ·subst h; simp at hi
 ·exact ⟨b,off,rfl,hbl,hcell i hi⟩
set_option maxHeartbeats 400000 in
theorem zqcd (v:Value) (ds:List Int) (i:Int) (j:Nat) (hij:Hid (i = j)) (w:World) (hv:Ints .i64 w v ds) :
  Calls Tryz.prog 164 #[v,.int .i64 i] w fun e w' => e = .returned (.int .i64 (ds.getD j 0)) ∧ w = w':=by
 have hi:=hij.out;subst hi;have hv0:=hv;obtain ⟨a,cap,rfl,hc,ha⟩:=hv
 by_cases hlt:j < ds.length
 ·obtain ⟨b,off,rfl,hb,hcell⟩:=hv0.cell hlt;clear hv0 ha hij;generalize ds.getD j 0 = x at *;go_enter Tryz.func164,Tryz.ntmps164;go_wp2;go_ret;exact ⟨rfl,rfl⟩
 ·have e0:Hid (ds.getD j 0 = 0):=zh (zqa3 (by omega))
  clear hv0 ha hij;go_enter Tryz.func164,Tryz.ntmps164;go_wp2;go_ret;exact ⟨zqar e0.out.symm,rfl⟩
theorem zqlp {a b:List Int} {m:Nat} (ha:a.length ≤ m) (hb:b.length ≤ m):∀ j,m ≤ j → a.getD j 0 = b.getD j 0:=fun j hj => by
 rw [zqa3 (by omega),zqa3 (by omega)]
theorem zqgu {a b:List Int} {k:Nat} (h:∀ j,k + 1 ≤ j → a.getD j 0 = b.getD j 0) (e:a.getD k 0 = b.getD k 0):∀ j,k ≤ j → a.getD j 0 = b.getD j 0:=fun j hj => by
 by_cases hjk:j = k
 ·subst hjk; exact e
 ·exact h j (by omega)
set_option maxHeartbeats 1000000 in
theorem zqc0 (u v:Value) (a b:List Int) (w:World) (hu:Ints .i64 w u a) (hv:Ints .i64 w v b) (ha:Dig a) (hb:Dig b) (la:a.length ≤ 1099511627776) (lb:b.length ≤ 1099511627776) :
  Calls Tryz.prog 132 #[u,v] w fun e w' => e = .returned (.int .i64 (cmpI (val a) (val b))) ∧ w = w':=by
 have HU:=zh (fun (i:Int) (j:Nat) (h:Hid (i = j)) => zqcd u a i j h w hu)
 have HV:=zh (fun (i:Int) (j:Nat) (h:Hid (i = j)) => zqcd v b i j h w hv)
 have HD:=zh (And.intro ha hb);obtain ⟨ap,ac,rfl,-,-⟩:=hu;obtain ⟨bp,bc,rfl,-,-⟩:=hv;clear ha hb
 by_cases hab:a.length < b.length
 all_goals
  go_enter Tryz.func132,Tryz.ntmps132;go_wp2_with fail;go_loop [5] (fun i => ∃ (k:Nat) (z:Int),Hid (z = (k:Int) - 1) ∧ -1 ≤ z ∧ z ≤ 1099511627776 ∧ i = .int .i64 z ∧ Hid (∀ j,k ≤ j → a.getD j 0 = b.getD j 0)) (fun i => (intOf i + 1).toNat)
  case atStart => exact ⟨_,_,zh rfl,by omega,by omega,rfl,zh (zqlp (by omega) (by omega))⟩
  case round =>
   obtain ⟨k,z,hz,hz1,hz2,rfl,hs⟩:=hrel;clear hab
   by_cases h0:0 ≤ z
   ·obtain ⟨n,rfl⟩:∃ n,k = n + 1:=⟨k - 1,by have:=hz.out; omega⟩
    have hn:Hid (z = (n:Int)):=zh (by have:=hz.out; omega)
    have hC:=zh (fun (x y:Int) (hx:a.getD n 0 = x) (hy:b.getD n 0 = y) (hlt:x < y) => zqe1 HD.out.1 HD.out.2 (n:=n) (by simpa using hs.out) (by rw [hx,hy]; exact hlt))
    have hD:=zh (fun (x y:Int) (hx:a.getD n 0 = x) (hy:b.getD n 0 = y) (hlt:y < x) => zqe1 HD.out.2 HD.out.1 (n:=n) (fun i hi => (by simpa using hs.out i hi:_ = _).symm) (by rw [hx,hy]; exact hlt))
    have hE:=zh (fun (x y:Int) (hx:a.getD n 0 = x) (hy:b.getD n 0 = y) (he:x = y) => zqgu hs.out (hx.trans (he.trans hy.symm)))
    have HA1:=zh (HU.out z n hn);have HB1:=zh (HV.out z n hn);clear hs HU HV HD;generalize hx:a.getD n 0 = x at *;generalize hy:b.getD n 0 = y at *;have hX:=zh hx;have hY:=zh hy;clear hx hy;rcases Int.lt_trichotomy x y with hlt | heq | hgt
    ·have hne:¬ x = y:=by omega
     go_wp2_with fail;refine (HA1.out).mono ?_; rintro e w' ⟨rfl,rfl⟩;go_wp2_with fail;refine (HB1.out).mono ?_; rintro e w' ⟨rfl,rfl⟩;go_wp2_with fail;refine (HA1.out).mono ?_; rintro e w' ⟨rfl,rfl⟩;go_wp2_with fail;refine (HB1.out).mono ?_; rintro e w' ⟨rfl,rfl⟩;go_wp2_with fail;go_ret;exact ⟨zqar (zqdu (hC.out x y rfl rfl hlt)).symm,rfl⟩
    ·subst heq;go_wp2_with fail;refine (HA1.out).mono ?_; rintro e w' ⟨rfl,rfl⟩;go_wp2_with fail;refine (HB1.out).mono ?_; rintro e w' ⟨rfl,rfl⟩;go_wp2_with fail;go_round
     case rel => exact ⟨n,z - 1,zh (by have:=hn.out; omega),by omega,by omega,rfl,zh (hE.out x x rfl rfl rfl)⟩
     case measure => simp [intOf]; omega
    ·have hne:¬ x = y:=by omega
     have hnl:¬ x < y:=by omega
     go_wp2_with fail;refine (HA1.out).mono ?_; rintro e w' ⟨rfl,rfl⟩;go_wp2_with fail;refine (HB1.out).mono ?_; rintro e w' ⟨rfl,rfl⟩;go_wp2_with fail;refine (HA1.out).mono ?_; rintro e w' ⟨rfl,rfl⟩;go_wp2_with fail;refine (HB1.out).mono ?_; rintro e w' ⟨rfl,rfl⟩;go_wp2_with fail;go_ret;exact ⟨zqar (zqg1 (hD.out x y rfl rfl hgt)).symm,rfl⟩
   ·have he:Hid (val a = val b):=zh (zqc6 (fun j => hs.out j (by have:=hz.out; omega)))
    clear HU HV HD hs;go_wp2_with fail;go_ret;exact ⟨zqar (zqpb he.out).symm,rfl⟩
theorem Ints.own {w:World} {B E:Nat} {v:Value} {n:Nat} {k:IntKind} {zs:List Int} (h:w.ownsRow B E 1 v n (zs.map (Value.int k))):Ints k w v zs:=by
 obtain ⟨hl,h⟩:=h;have hn:n = zs.length:=by simpa using hl.symm
 subst hn;rcases h with ⟨rfl,h0⟩ | ⟨g,cap,cur,rfl,_,hb,hnc,_,hs,ht⟩
 ·have:zs = []:=List.length_eq_zero_iff.1 h0;subst this;exact ⟨none,0,rfl,by simp,.inl rfl⟩
 ·refine ⟨_,cap,rfl,hnc,.inr ⟨g,0,rfl,?_,fun i hi => ?_⟩⟩
  ·exact (Array.getElem?_eq_some_iff.1 hb).1
  ·have e:cur.toList[i]? = some (.int k (zs.getD i 0)):=by
    have h1:(cur.toList.take (zs.length * 1))[i]? = (zs.map (Value.int k))[i]?:=by rw [ht]
    rw [List.getElem?_take,if_pos (by omega)] at h1
    rw [h1]; simp [List.getD,hi]
   simp [World.cell?,hb];simpa using e
theorem Tryz.infoInt:(Tryz.prog.info? 3).map (fun i => (i.zero,i.size,i.bytes)) = some (some (.int .i64 0),1,8):=by kernel_rfl
theorem zqxp {a b out:List Int} {k:Nat} {c:Int} (h:valN a k + valN b k = val out + 1000 ^ k * c) (hl:out.length = k) (s:Int) (hs:s = a.getD k 0 + b.getD k 0 + c) :
  valN a (k + 1) + valN b (k + 1) = val (out ++ [s % 1000]) + 1000 ^ (k + 1) * (s / 1000):=by
 rw [valN,valN,zqf1,hl,zqbs];have h1:=zqfl s (1000 ^ k);have h2:s * 1000 ^ k = a.getD k 0 * 1000 ^ k + b.getD k 0 * 1000 ^ k + c * 1000 ^ k:=by rw [hs,Int.add_mul,Int.add_mul]
 have h3:1000 ^ k * 1000 * (s / 1000) = s / 1000 * (1000 ^ k * 1000):=Int.mul_comm _ _;have h4:1000 ^ k * c = c * 1000 ^ k:=Int.mul_comm _ _;omega
def SumRel (a b out:List Int) (k:Nat) (c:Int):Prop:=valN a k + valN b k = val out + 1000 ^ k * c ∧ out.length = k ∧ Dig out ∧ 0 ≤ c ∧ c ≤ 1
theorem SumRel.start (a b:List Int):SumRel a b [] 0 0:=⟨by simp [valN,zqdy],rfl,Dig.nil,by omega,by omega⟩
theorem SumRel.step {a b out:List Int} {k:Nat} {c:Int} (ha:Dig a) (hb:Dig b) (h:SumRel a b out k c) (x y:Int) (hx:a.getD k 0 = x) (hy:b.getD k 0 = y) :
  SumRel a b (out ++ [(x + y + c) % 1000]) (k + 1) ((x + y + c) / 1000):=by
 obtain ⟨h1,h2,h3,h4,h5⟩:=h;have h6:=ha.getD k;have h7:=hb.getD k;rw [hx] at h6;rw [hy] at h7;exact ⟨zqxp h1 h2 _ (by rw [hx,hy]),by simp [h2],h3.snoc (by omega) (by omega),by omega,by omega⟩
theorem SumRel.stop {a b out:List Int} {k:Nat} {c:Int} (h:SumRel a b out k c) (ka:a.length ≤ k) (kb:b.length ≤ k):val (out ++ [c]) = val a + val b ∧ Dig (out ++ [c]) ∧ (out ++ [c]).length = k + 1:=by
 obtain ⟨h1,h2,h3,h4,h5⟩:=h;rw [zqcl a ka,zqcl b kb] at h1;refine ⟨?_,h3.snoc h4 (by omega),by simp [h2]⟩
 rw [zqf1,h2,Int.mul_comm c]; omega
theorem zqdx (k:IntKind) (x:Int):∀ u ∈ [Value.int k x],u.oneCell' = true:=by intro u hu; simp at hu; subst hu; rfl
theorem room63 {n:Nat} (h:n ≤ 1099511627776):n + 1 ≤ maxLen:=by unfold maxLen; omega
theorem room47 {n:Nat} (h:n ≤ 1099511627776):(n + 1) * 8 ≤ 140737488355328:=by omega
theorem zqd8 {B:Nat} {w wr w1:World} {E:Nat} {o v':Value} {n:Nat} {k:IntKind} {zs:List Int} {x:Int} {ob:Obj} (hn:n = zs.length) (hB:B ≤ wr.heap.size) (hnx:Below B w wr) (hown:wr.ownsRow B E 1 o zs.length (zs.map (Value.int k)))
  (hown':w1.ownsRow B E 1 v' (n + 1) (zs.map (Value.int k) ++ [.int k x])) (hg:(wr.alloc ob).grownBy w1 o.ownBlock) :
  w1.ownsRow B E 1 v' (zs ++ [x]).length ((zs ++ [x]).map (Value.int k)) ∧ Below B w w1:=by
 subst hn;refine ⟨by simpa using hown',(hnx.alloc hB ob).grown hg ?_ ?_⟩
 ·simp; omega
 ·intro k hk; exact (hown.lt k hk).1
theorem zqbr {w:World} {B E:Nat} {v:Value} {n:Nat} {xs:List Value} (h:w.ownsRow B E 1 v n xs):∃ a cap,v = .slice a n cap:=by
 obtain ⟨_,h⟩:=h;rcases h with ⟨rfl,rfl⟩ | ⟨g,cap,cur,rfl,_⟩
 ·exact ⟨_,_,rfl⟩
 ·exact ⟨_,_,rfl⟩
theorem zqjk {w wr:World} {a b:Value} {T:TypeId} (h:Below (w.heap.size + 1) (w.alloc (.cells #[a,b] T)) wr) :
  wr.cell? ⟨w.heap.size,0,none⟩ = some a ∧ wr.cell? ⟨w.heap.size,1,none⟩ = some b ∧ wr.frozen? ⟨w.heap.size,0,none⟩ = false ∧ wr.frozen? ⟨w.heap.size,1,none⟩ = false:=by
 refine ⟨?_,?_,?_,?_⟩
 ·rw [h.cell (p:=⟨w.heap.size,0,none⟩) (by simp)]; simp [go_sem]
 ·rw [h.cell (p:=⟨w.heap.size,1,none⟩) (by simp)]; simp [go_sem]
 ·rw [h.frozen (p:=⟨w.heap.size,0,none⟩) (by simp)]; exact World.frozen?_alloc_at _ _ _ _ rfl
 ·rw [h.frozen (p:=⟨w.heap.size,1,none⟩) (by simp)]; exact World.frozen?_alloc_at _ _ _ _ rfl
def Typed (E:TypeId) (w:World) (v:Value):Prop:=∀ b off l cap,v = .slice (some ⟨b,off,none⟩) l cap → ∃ cur fr,w.heap[b]? = some (.cells cur E fr)
theorem Typed.below {E:TypeId} {w w':World} {v:Value} (h:Typed E w v) (hb:Below w.heap.size w w'):Typed E w' v:=fun b off l cap e => by
 obtain ⟨cur,fr,hh⟩:=h b off l cap e;exact ⟨cur,fr,by rw [hb.block b (Array.getElem?_eq_some_iff.1 hh).1]; exact hh⟩
theorem Typed.none {E:TypeId} {w:World} {l cap:Nat}:Typed E w (.slice none l cap):=fun _ _ _ _ e => by cases e
theorem Typed.own {w:World} {B E:Nat} {v:Value} {n:Nat} {xs:List Value} (h:w.ownsRow B E 1 v n xs):Typed E w v:=by
 obtain ⟨_,h⟩:=h;rcases h with ⟨rfl,rfl⟩ | ⟨g,cap,cur,rfl,_,hb,_⟩
 ·exact Typed.none
 ·intro b off l cap' e;simp only [Value.slice.injEq,Option.some.injEq,Addr.mk.injEq] at e;obtain ⟨⟨rfl,rfl,_⟩,_⟩:=e;exact ⟨cur,_,hb⟩
theorem Typed.cut {E:TypeId} {w:World} {a:Option Addr} {l cap l' cap':Nat} (h:Typed E w (.slice a l cap)):Typed E w (.slice a l' cap'):=fun b off m c e => by
 simp only [Value.slice.injEq] at e;exact h b off l cap (by rw [e.1])
theorem zqbo {w:World} {p:Addr} {u:Value} {b:Nat} {cur:Array Value} {E:TypeId} {fr:Nat × Nat} (h:w.heap[b]? = some (.cells cur E fr)):∃ cur',(w.setCell p u).heap[b]? = some (.cells cur' E fr):=by
 by_cases e:b = p.block
 ·subst e;refine ⟨if p.spot.isSome then cur else cur.setIfInBounds p.off u,?_⟩
  simp [World.setCell,Array.getElem?_modify,h]
 ·exact ⟨cur,by rw [Below.heap_setCell _ _ _ _ e]; exact h⟩
theorem Typed.set {E:TypeId} {w:World} {v:Value} (h:Typed E w v) (p:Addr) (u:Value):Typed E (w.setCell p u) v:=fun b off l cap e => by
 obtain ⟨cur,fr,hh⟩:=h b off l cap e;obtain ⟨cur',h'⟩:=zqbo (p:=p) (u:=u) hh;exact ⟨cur',fr,h'⟩
theorem Ints.set {E T:TypeId} {k:IntKind} {w:World} {v:Value} {zs:List Int} (h:Ints k w v zs) (ht:Typed E w v) {p:Addr} (u:Value) {cur:Array Value} {fr:Nat × Nat} (hp:w.heap[p.block]? = some (.cells cur T fr)) (hne:T ≠ E):Ints k (w.setCell p u) v zs:=by
 obtain ⟨a,cap,rfl,hc,ha⟩:=h;refine ⟨a,cap,rfl,hc,?_⟩;rcases ha with h | ⟨b,off,rfl,hbl,hcell⟩
 ·exact .inl h
 ·refine .inr ⟨b,off,rfl,by simpa [World.setCell] using hbl,fun i hi => ?_⟩
  rw [World.cell?_setCell_other]
  ·exact hcell i hi
  ·intro e;obtain ⟨cur',fr',hh⟩:=ht b off _ _ rfl;rw [e] at hp;rw [hp] at hh;simp only [Option.some.injEq,Obj.cells.injEq] at hh;exact hne hh.2.1
def MadeDigits (w:World) (z:Int) (m:Nat) (e:Ending) (w':World):Prop:=∃ v out,e = .returned v ∧ Ints .i64 w' v out ∧ Typed 3 w' v ∧ Dig out ∧ val out = z ∧ out.length ≤ m ∧ Below w.heap.size w w'
set_option maxRecDepth 100000
open Go.RowKit
set_option maxHeartbeats 1000000 in
theorem zqry (u v:Value) (a b:List Int) (w:World) (hu:Ints .i64 w u a) (hv:Ints .i64 w v b) (ha:Dig a) (hb:Dig b) (la:a.length ≤ 1099511627775) (lb:b.length ≤ 1099511627775) :
  Calls Tryz.prog 131 #[u,v] w (MadeDigits w (val a + val b) (max a.length b.length + 1)):=by
 obtain ⟨i0,hi,hz0,hz1,hz2⟩:=info_parts Tryz.infoInt;have HU:=zh hu;have HV:=zh hv;have HD:=zh (And.intro ha hb);obtain ⟨ap,ac,rfl,-,-⟩:=hu;obtain ⟨bp,bc,rfl,-,-⟩:=hv;clear ha hb
 by_cases hab:a.length < b.length
 all_goals
  go_enter Tryz.func131,Tryz.ntmps131;go_wp2_with fail;go_loopw [5,6,7] (fun o c i wr => ∃ (k:Nat) (out:List Int) (cr:Int),k ≤ max a.length b.length ∧ i = .int .i64 k ∧ c = .int .i64 cr ∧ Hid (SumRel a b out k cr) ∧ 0 ≤ cr ∧ cr ≤ 1 ∧
    Hid (wr.ownsRow w.heap.size 3 1 o out.length (out.map (Value.int .i64))) ∧ Hid (Below w.heap.size w wr)) (fun _ _ i _ => max a.length b.length - (intOf i).toNat)
  case atStart => exact ⟨0,[],0,Nat.zero_le _,rfl,rfl,zh (SumRel.start a b),by omega,by omega,zh (World.ownsRow_nil _ _ _ _),zh (Below.refl _ _)⟩
  case round =>
   obtain ⟨k,out,cr,hk,rfl,rfl,hR,hc0,hc1,hown,hnx⟩:=hrel;have HAr:=HU.out.below hnx.out;have HBr:=HV.out.below hnx.out;have hlo:=zh hR.out.2.1;have hol:out.length ≤ 1099511627775:=by have:=hlo.out; omega
   by_cases hlt:k < max a.length b.length
   ·have HA1:=zh (fun w1 h => zqcd _ a k k (zh rfl) w1 (HAr.below h))
    have HB1:=zh (fun w1 h => zqcd _ b k k (zh rfl) w1 (HBr.below h))
    have da:=HD.out.1.getD k;have db:=HD.out.2.getD k;have hS:=zh (fun (x y:Int) (hx:a.getD k 0 = x) (hy:b.getD k 0 = y) => hR.out.step HD.out.1 HD.out.2 x y hx hy)
    generalize hx:a.getD k 0 = x at *;generalize hy:b.getD k 0 = y at *;have hS2:=zh (hS.out x y rfl rfl);clear hx hy hS hR HAr HBr HU HV HD;obtain ⟨x1,x2⟩:=da;obtain ⟨y1,y2⟩:=db;have hlt1:k < a.length ∨ k < b.length:=by omega
    have hlt2:(k < b.length ∧ a.length < b.length) ∨ (k < a.length ∧ ¬ a.length < b.length):=by omega
    clear hlt1;have hsz:=hnx.out.size;obtain ⟨hlt3,-⟩ | ⟨hlt3,-⟩:=hlt2
    all_goals
     go_wp2_with fail;refine (HA1.out _ (Below.refl _ _)).mono ?_; rintro e w' ⟨rfl,rfl⟩;go_wp2_with fail;refine (HB1.out _ (Below.refl _ _)).mono ?_; rintro e w' ⟨rfl,rfl⟩;go_wp2_with (at_builtin; refine wpList_append_own _ rfl _ _ 69 rfl w.heap.size 3 i0 (.int .i64 0) 1 8 Tryz.underlying69 hi hz0 hz1 hz2 rfl (by decide) _ _ _ rfl (hown.out.alloc _) ⟨wr.heap.size,0,none⟩ 1 1 [.int .i64 ((x + y + cr) % 1000)] rfl rfl (cell_one_new _ _ _) (zqdx _ _) (room63 (by omega)) (room47 (by omega)) (by simp; omega) ?_; intro v' w1 hown' hgrow _)
     have hP:=zh (zqd8 rfl hnx.out.size hnx.out hown.out hown' hgrow);clear hown' hgrow hown hnx hsz;go_wp2_with fail;go_roundw
     case rel => exact ⟨k + 1,out ++ [(x + y + cr) % 1000],(x + y + cr) / 1000,by omega,by go_num,rfl,hS2,by omega,by omega,zh hP.out.1,zh hP.out.2⟩
     case measure => simp [intOf]; omega
   ·have hE:=zh (hR.out.stop (k:=k) (by omega) (by omega))
    have hlt2:(b.length ≤ k ∧ a.length < b.length) ∨ (a.length ≤ k ∧ ¬ a.length < b.length):=by omega
    have hkm:k ≤ max a.length b.length:=hk;clear hR HAr HBr HU HV HD;have hsz:=hnx.out.size;obtain ⟨hlt3,hlt4⟩ | ⟨hlt3,hlt4⟩:=hlt2
    all_goals try exact absurd hlt4 hab
    all_goals try exact absurd hab hlt4
    all_goals
     go_wp2_with (at_builtin; refine wpList_append_own _ rfl _ _ 69 rfl w.heap.size 3 i0 (.int .i64 0) 1 8 Tryz.underlying69 hi hz0 hz1 hz2 rfl (by decide) _ _ _ rfl (hown.out.alloc _) ⟨wr.heap.size,0,none⟩ 1 1 [.int .i64 cr] rfl rfl (cell_one_new _ _ _) (zqdx _ _) (room63 (by omega)) (room47 (by omega)) (by simp; omega) ?_; intro v' w1 hown' hgrow _)
     have hP:=zqd8 rfl hnx.out.size hnx.out hown.out hown' hgrow;go_ret;exact ⟨v',out ++ [cr],rfl,Ints.own hP.1,Typed.own hP.1,hE.out.2.1,hE.out.1,by have:=hE.out.2.2; omega,hP.2⟩
theorem rest_step {a b out:List Int} {k:Nat} {c:Int} (h:valN a k - valN b k = val out - 1000 ^ k * c) (hl:out.length = k) (s d c':Int) (hs:s = a.getD k 0 - b.getD k 0 - c) (hd:s = d - 1000 * c') :
  valN a (k + 1) - valN b (k + 1) = val (out ++ [d]) - 1000 ^ (k + 1) * c':=by
 rw [valN,valN,zqf1,hl,zqbs];have h2:s * 1000 ^ k = a.getD k 0 * 1000 ^ k - b.getD k 0 * 1000 ^ k - c * 1000 ^ k:=by rw [hs,Int.sub_mul,Int.sub_mul]
 have h3:s * 1000 ^ k = d * 1000 ^ k - 1000 * c' * 1000 ^ k:=by rw [hd,Int.sub_mul]
 have h4:1000 ^ k * c = c * 1000 ^ k:=Int.mul_comm _ _;have h5:1000 ^ k * 1000 * c' = 1000 * c' * 1000 ^ k:=by rw [Int.mul_assoc,Int.mul_comm]
 omega
def RestRel (a b out:List Int) (k:Nat) (c:Int):Prop:=valN a k - valN b k = val out - 1000 ^ k * c ∧ out.length = k ∧ Dig out ∧ 0 ≤ c ∧ c ≤ 1
theorem RestRel.start (a b:List Int):RestRel a b [] 0 0:=⟨by simp [valN,zqdy],rfl,Dig.nil,by omega,by omega⟩
theorem RestRel.less {a b out:List Int} {k:Nat} {c:Int} (ha:Dig a) (hb:Dig b) (h:RestRel a b out k c) (x y:Int) (hx:a.getD k 0 = x) (hy:b.getD k 0 = y) (hn:x - y - c < 0) :
  RestRel a b (out ++ [x - y - c + 1000]) (k + 1) 1:=by
 obtain ⟨h1,h2,h3,h4,h5⟩:=h;have h6:=ha.getD k;have h7:=hb.getD k;rw [hx] at h6;rw [hy] at h7;exact ⟨rest_step h1 h2 _ _ 1 (by rw [hx,hy]) (by omega),by simp [h2],h3.snoc (by omega) (by omega),by omega,by omega⟩
theorem RestRel.more {a b out:List Int} {k:Nat} {c:Int} (ha:Dig a) (hb:Dig b) (h:RestRel a b out k c) (x y:Int) (hx:a.getD k 0 = x) (hy:b.getD k 0 = y) (hn:0 ≤ x - y - c) :
  RestRel a b (out ++ [x - y - c]) (k + 1) 0:=by
 obtain ⟨h1,h2,h3,h4,h5⟩:=h;have h6:=ha.getD k;have h7:=hb.getD k;rw [hx] at h6;rw [hy] at h7;exact ⟨rest_step h1 h2 _ _ 0 (by rw [hx,hy]) (by omega),by simp [h2],h3.snoc (by omega) (by omega),by omega,by omega⟩
theorem RestRel.stop {a b out:List Int} {c:Int} (hb:Dig b) (ha:Dig a) (hv:val b ≤ val a) (h:RestRel a b out a.length c):val out = val a - val b ∧ Dig out ∧ out.length = a.length:=by
 obtain ⟨h1,h2,h3,h4,h5⟩:=h;have hr:=zqa7 ha;have hr2:=zqa7 h3;rw [h2] at hr2;rw [zqcl a (Nat.le_refl _),zqr1 hb (by omega)] at h1
 refine ⟨?_,h3,h2⟩;have:c = 0 ∨ c = 1:=by omega
 rcases this with rfl | rfl <;> simp at h1 <;> omega
set_option maxHeartbeats 1000000 in
theorem zqc8 (u v:Value) (a b:List Int) (w:World) (hu:Ints .i64 w u a) (hv:Ints .i64 w v b) (ha:Dig a) (hb:Dig b) (la:a.length ≤ 1099511627775) (hab:val b ≤ val a) :
  Calls Tryz.prog 133 #[u,v] w (MadeDigits w (val a - val b) a.length):=by
 obtain ⟨i0,hi,hz0,hz1,hz2⟩:=info_parts Tryz.infoInt;have HU:=zh hu;have HV:=zh hv;have HD:=zh (And.intro ha (And.intro hb hab));obtain ⟨ap,ac,rfl,-,-⟩:=hu;obtain ⟨bp,bc,rfl,-,-⟩:=hv;clear ha hb hab;go_enter Tryz.func133,Tryz.ntmps133;go_wp2_with fail;go_loopw [5,6,7] (fun o c i wr => ∃ (k:Nat) (out:List Int) (cr:Int),k ≤ a.length ∧ i = .int .i64 k ∧ c = .int .i64 cr ∧ Hid (RestRel a b out k cr) ∧ 0 ≤ cr ∧ cr ≤ 1 ∧
   Hid (wr.ownsRow w.heap.size 3 1 o out.length (out.map (Value.int .i64))) ∧ Hid (Below w.heap.size w wr)) (fun _ _ i _ => a.length - (intOf i).toNat)
 case atStart => exact ⟨0,[],0,Nat.zero_le _,rfl,rfl,zh (RestRel.start a b),by omega,by omega,zh (World.ownsRow_nil _ _ _ _),zh (Below.refl _ _)⟩
 case round =>
  obtain ⟨k,out,cr,hk,rfl,rfl,hR,hc0,hc1,hown,hnx⟩:=hrel;have HAr:=HU.out.below hnx.out;have HBr:=HV.out.below hnx.out;have hlo:=zh hR.out.2.1;have hol:out.length ≤ 1099511627775:=by have:=hlo.out; omega
  by_cases hlt:k < a.length
  ·have HA1:=zh (fun w1 h => zqcd _ a k k (zh rfl) w1 (HAr.below h))
   have HB1:=zh (fun w1 h => zqcd _ b k k (zh rfl) w1 (HBr.below h))
   have da:=HD.out.1.getD k;have db:=HD.out.2.1.getD k;have hS:=zh (fun (x y:Int) (hx:a.getD k 0 = x) (hy:b.getD k 0 = y) (hn:x - y - cr < 0) => hR.out.less HD.out.1 HD.out.2.1 x y hx hy hn)
   have hT:=zh (fun (x y:Int) (hx:a.getD k 0 = x) (hy:b.getD k 0 = y) (hn:0 ≤ x - y - cr) => hR.out.more HD.out.1 HD.out.2.1 x y hx hy hn)
   generalize hx:a.getD k 0 = x at *;generalize hy:b.getD k 0 = y at *;have hS2:=zh (hS.out x y rfl rfl);have hT2:=zh (hT.out x y rfl rfl);clear hx hy hS hT hR HAr HBr HU HV HD;obtain ⟨x1,x2⟩:=da;obtain ⟨y1,y2⟩:=db;have hsz:=hnx.out.size
   by_cases hneg:x - y - cr < 0
   ·go_wp2_with fail;refine (HA1.out _ (Below.refl _ _)).mono ?_; rintro e w' ⟨rfl,rfl⟩;go_wp2_with fail;refine (HB1.out _ (Below.refl _ _)).mono ?_; rintro e w' ⟨rfl,rfl⟩;go_wp2_with (at_builtin; refine wpList_append_own _ rfl _ _ 69 rfl w.heap.size 3 i0 (.int .i64 0) 1 8 Tryz.underlying69 hi hz0 hz1 hz2 rfl (by decide) _ _ _ rfl (hown.out.alloc _) ⟨wr.heap.size,0,none⟩ 1 1 [.int .i64 (x - y - cr + 1000)] rfl rfl (cell_one_new _ _ _) (zqdx _ _) (room63 (by omega)) (room47 (by omega)) (by simp; omega) ?_; intro v' w1 hown' hgrow _)
    have hP:=zh (zqd8 rfl hnx.out.size hnx.out hown.out hown' hgrow);clear hown' hgrow hown hnx hsz;go_wp2_with fail;go_roundw
    case rel => exact ⟨k + 1,out ++ [x - y - cr + 1000],1,by omega,by go_num,rfl,zh (hS2.out hneg),by omega,by omega,zh hP.out.1,zh hP.out.2⟩
    case measure => simp [intOf]; omega
   ·have hpos:0 ≤ x - y - cr:=by omega
    go_wp2_with fail;refine (HA1.out _ (Below.refl _ _)).mono ?_; rintro e w' ⟨rfl,rfl⟩;go_wp2_with fail;refine (HB1.out _ (Below.refl _ _)).mono ?_; rintro e w' ⟨rfl,rfl⟩;go_wp2_with (at_builtin; refine wpList_append_own _ rfl _ _ 69 rfl w.heap.size 3 i0 (.int .i64 0) 1 8 Tryz.underlying69 hi hz0 hz1 hz2 rfl (by decide) _ _ _ rfl (hown.out.alloc _) ⟨wr.heap.size,0,none⟩ 1 1 [.int .i64 (x - y - cr)] rfl rfl (cell_one_new _ _ _) (zqdx _ _) (room63 (by omega)) (room47 (by omega)) (by simp; omega) ?_; intro v' w1 hown' hgrow _)
    have hP:=zh (zqd8 rfl hnx.out.size hnx.out hown.out hown' hgrow);clear hown' hgrow hown hnx hsz;go_wp2_with fail;go_roundw
    case rel => exact ⟨k + 1,out ++ [x - y - cr],0,by omega,by go_num,rfl,zh (hT2.out hpos),by omega,by omega,zh hP.out.1,zh hP.out.2⟩
    case measure => simp [intOf]; omega
  ·obtain rfl:k = a.length:=by omega
   have hE:=hR.out.stop HD.out.2.1 HD.out.1 HD.out.2.2;have hE:=zh hE;clear hR HAr HBr HU HV HD;go_wp2_with fail;go_ret;exact ⟨_,out,rfl,Ints.own hown.out,Typed.own hown.out,hE.out.2.1,hE.out.1,by have:=hE.out.2.2; omega,hnx.out⟩
set_option maxRecDepth 100000
open Go.RowKit
def signed (neg:Bool) (z:Int):Int:=bif neg then -z else z
def IsNum (w:World) (v:Value) (z:Int):Prop :=
 ∃ neg s ds,v = .agg #[.bool neg,s] ∧ Ints .i64 w s ds ∧ Typed 3 w s ∧ Dig ds ∧ Tidy ds ∧ (neg = true → ds ≠ []) ∧ z = signed neg (val ds)
def MadeNum (w:World) (z:Int) (e:Ending) (w':World):Prop:=∃ v,e = .returned v ∧ IsNum w' v z ∧ Below w.heap.size w w'
theorem IsNum.below {w w':World} {v:Value} {z:Int} (h:IsNum w v z) (hb:Below w.heap.size w w'):IsNum w' v z:=by
 obtain ⟨neg,s,ds,h1,h2,h3,h4⟩:=h;exact ⟨neg,s,ds,h1,h2.below hb,h3.below hb,h4⟩
theorem IsNum.set {w:World} {v:Value} {z:Int} (h:IsNum w v z) {p:Addr} (u:Value) {cur:Array Value} {T:TypeId} {fr:Nat × Nat} (hp:w.heap[p.block]? = some (.cells cur T fr)) (hne:T ≠ 3):IsNum (w.setCell p u) v z:=by
 obtain ⟨neg,s,ds,h1,h2,h3,h4⟩:=h;exact ⟨neg,s,ds,h1,h2.set h3 u hp hne,h3.set p u,h4⟩
theorem zqm7 {w W wr:World} {N:Nat} {x y:Value} {z:Int} {u s:Value} (hN:W.heap.size = N) (hW:Below w.heap.size w W) (h:IsNum wr (.agg #[u,s]) z) (hb:Below (N + 1) (W.alloc (.cells #[x,y] 115)) wr) :
  IsNum ((wr.setCell ⟨N,0,none⟩ u).setCell ⟨N,1,none⟩ s) (.agg #[u,s]) z ∧ Below w.heap.size w ((wr.setCell ⟨N,0,none⟩ u).setCell ⟨N,1,none⟩ s):=by
 subst hN;have hh:wr.heap[W.heap.size]? = some (.cells #[x,y] 115 (0,0)):=by
  rw [hb.block _ (by omega)]; exact heap_alloc_new W _
 obtain ⟨cur,h2⟩:=zqbo (p:=⟨W.heap.size,0,none⟩) (u:=u) hh;refine ⟨(h.set u hh (by decide)).set s h2 (by decide),?_⟩
 have hs:=hW.size;exact (((hW.alloc hs _).trans (hb.mono (by omega))).setCell hs _).setCell hs _
theorem zqy0 {W wr:World} {N:Nat} {a b:Value} {T:TypeId} (hN:W.heap.size = N) (h:Below (N + 1) (W.alloc (.cells #[a,b] T)) wr) :
  wr.cell? ⟨N,0,none⟩ = some a ∧ wr.cell? ⟨N,1,none⟩ = some b ∧ wr.frozen? ⟨N,0,none⟩ = false ∧ wr.frozen? ⟨N,1,none⟩ = false:=by
 subst hN; exact zqjk h
theorem Ints.take {k:IntKind} {w:World} {zs:List Int} {a:Option Addr} {l cap:Nat} (h:Ints k w (.slice a l cap) zs) {n:Nat} (hn:n ≤ zs.length):Ints k w (.slice a n cap) (zs.take n):=by
 obtain ⟨a',cap',e,hc,ha⟩:=h;simp only [Value.slice.injEq] at e;obtain ⟨rfl,rfl,rfl⟩:=e;have hl:(zs.take n).length = n:=by rw [List.length_take]; omega
 refine ⟨a,cap,by rw [hl],by omega,?_⟩
 rcases ha with h | ⟨b,off,rfl,hbl,hcell⟩
 ·subst h; exact .inl (by simp)
 ·refine .inr ⟨b,off,rfl,hbl,fun i hi => ?_⟩
  rw [hl] at hi;rw [getD_take hi]; exact hcell i (by omega)
theorem zqab (w:World) (o:Obj):Below w.heap.size w (w.alloc o):=(Below.refl _ _).alloc (Nat.le_refl _) o
theorem zqib {w:World} {a:Option Addr} {l cap:Nat} {ds:List Int} {n:Nat} {neg b:Bool} (o:Obj) (hv:Ints .i64 w (.slice a l cap) ds) (hT:Typed 3 w (.slice a l cap)) (hd:Dig ds) (hn:n ≤ ds.length) (hz:∀ j,n ≤ j → ds.getD j 0 = 0) (ht:Tidy (ds.take n)) (hb:b = (neg && decide (0 < n))) :
  IsNum (w.alloc o) (.agg #[.bool b,.slice a n cap]) (signed neg (val ds)):=by
 refine ⟨b,_,ds.take n,rfl,(hv.take hn).below (zqab w o),hT.cut.below (zqab w o),hd.take n,ht,?_,?_⟩
 ·intro e he;have h1:n = 0:=by
   have:=congrArg List.length he;rw [List.length_take,List.length_nil] at this;omega
  subst h1; simp at hb; rw [hb] at e; cases e
 ·rw [zqny hn hz];cases neg
  ·simp at hb; subst hb; rfl
  ·by_cases h0:0 < n
   ·simp [h0] at hb; subst hb; rfl
   ·have h1:n = 0:=by omega
    subst h1;have:val ds = 0:=by rw [← zqny hn hz]; rfl
    simp at hb; subst hb; simp [signed,this]
set_option maxHeartbeats 1000000 in
theorem zqb9 (neg:Bool) (v:Value) (ds:List Int) (w:World) (hv:Ints .i64 w v ds) (ht:Typed 3 w v) (hd:Dig ds) (hl:ds.length ≤ 1099511627776) :
  Calls Tryz.prog 130 #[.bool neg,v] w (MadeNum w (signed neg (val ds))):=by
 have HV:=zh hv;have HT:=zh ht;clear ht;obtain ⟨ap,ac,rfl,hcap,-⟩:=hv;go_enter Tryz.func130,Tryz.ntmps130;go_wp2_with fail;go_loop [5] (fun i => ∃ n:Nat,n ≤ ds.length ∧ i = .int .i64 n ∧ Hid (∀ j,n ≤ j → ds.getD j 0 = 0)) (fun i => (intOf i).toNat)
 case atStart => exact ⟨_,Nat.le_refl _,rfl,zh (fun j hj => zqa3 hj)⟩
 case round =>
  obtain ⟨n,hn,rfl,hz⟩:=hrel
  by_cases h0:n = 0
  ·subst h0;cases neg
   all_goals
    go_wp2_with fail;exact bodyPost_ret (v:=.agg #[.bool false,.slice ap 0 ac]) (by simp [results,Tryz.results130,go_sem]) rfl ⟨_,rfl,zqib _ HV.out HT.out hd (Nat.zero_le _) hz.out (.inl rfl) rfl,zqab _ _⟩
  ·obtain ⟨m,rfl⟩:∃ m,n = m + 1:=⟨n - 1,by omega⟩
   obtain ⟨b,off,hap,hb,hcell⟩:=HV.out.cell (i:=m) (by omega)
   subst hap;have hzz:=zh (fun (x:Int) (hx:ds.getD m 0 = x) (e:x = 0) => (zqgu (b:=[]) (by simpa [List.getD] using hz.out) (by rw [hx,e]; rfl):∀ j,m ≤ j → ds.getD j 0 = [].getD j 0))
   have ht:=zh (fun (x:Int) (hx:ds.getD m 0 = x) (e:x ≠ 0) => (zqlz (n:=m + 1) hn (.inr (by rw [Nat.add_sub_cancel,hx]; exact e))))
   generalize hx:ds.getD m 0 = x at *;have hzz2:=zh (hzz.out x rfl);have ht2:=zh (ht.out x rfl);clear hzz ht hx
   by_cases hx0:x = 0
   ·subst hx0;go_wp2_with fail;go_round
    case rel => exact ⟨m,by omega,by go_num,zh (by simpa [List.getD] using hzz2.out rfl)⟩
    case measure => simp [intOf]
   ·cases neg
    all_goals
     go_wp2_with fail
    ·exact bodyPost_ret (v:=.agg #[.bool false,.slice (some ⟨b,off,none⟩) (m + 1) ac]) (by simp [results,Tryz.results130,go_sem]) rfl ⟨_,rfl,zqib _ HV.out HT.out hd hn hz.out (ht2.out hx0) rfl,zqab _ _⟩
    ·exact bodyPost_ret (v:=.agg #[.bool true,.slice (some ⟨b,off,none⟩) (m + 1) ac]) (by simp [results,Tryz.results130,go_sem]) rfl ⟨_,rfl,zqib _ HV.out HT.out hd hn hz.out (ht2.out hx0) (by simp),zqab _ _⟩
def NatRel (x0:Int) (out:List Int) (x:Int):Prop:=x0 = val out + 1000 ^ out.length * x ∧ Dig out ∧ (x = 0 → Tidy out) ∧ out.length ≤ 100
theorem NatRel.start (x:Int):NatRel x [] x:=⟨by simp [zqdy],Dig.nil,fun _ => .inl rfl,by simp⟩
theorem zqts {x0 x:Int} {n:Nat} {v:Int} (hv:0 ≤ v) (h:x0 = v + 1000 ^ n * x) (hx:0 < x) (h0:x0 ≤ 18446744073709551615):n ≤ 7:=by
 by_cases hn:n ≤ 7
 ·exact hn
 ·exfalso;have h1:=zqfe (m:=8) (n:=n) (by omega)
  have h2:1000 ^ n * 1 ≤ 1000 ^ n * x:=Int.mul_le_mul_of_nonneg_left (by omega) (Int.le_of_lt (p_pos n))
  have h3:(1000:Int) ^ 8 = 1000000000000000000000000:=by decide
  omega
theorem NatRel.step {x0 x:Int} {out:List Int} (h:NatRel x0 out x) (hx:0 < x) (h0:x0 ≤ 18446744073709551615):NatRel x0 (out ++ [x % 1000]) (x / 1000):=by
 obtain ⟨h1,h2,h3,h4⟩:=h;have hb:=zqts (zqa7 h2).1 h1 hx h0;refine ⟨?_,h2.snoc (by omega) (by omega),?_,by simp; omega⟩
 ·rw [zqf1,List.length_append,List.length_singleton,zqbs];have e:=zqfl x (1000 ^ out.length);have e2:1000 ^ out.length * 1000 * (x / 1000) = x / 1000 * (1000 ^ out.length * 1000):=Int.mul_comm _ _;have e3:1000 ^ out.length * x = x * 1000 ^ out.length:=Int.mul_comm _ _;omega
 ·intro e;refine .inr ?_;have:(out ++ [x % 1000]).getD ((out ++ [x % 1000]).length - 1) 0 = x % 1000:=by simp [List.getD]
  rw [this]; omega
theorem NatRel.stop {x0:Int} {out:List Int} (h:NatRel x0 out 0):val out = x0 ∧ Dig out ∧ Tidy out:=⟨by have:=h.1; simp at this; exact this.symm,h.2.1,h.2.2.1 rfl⟩
set_option maxHeartbeats 1000000 in
theorem zqch (x:Int) (w:World) (h0:0 ≤ x) (h1:x ≤ 18446744073709551615) :
  Calls Tryz.prog 134 #[.int .u64 x] w (MadeNum w x):=by
 obtain ⟨i0,hi,hz0,hz1,hz2⟩:=info_parts Tryz.infoInt;go_enter Tryz.func134,Tryz.ntmps134;go_wp2_with fail;have hr0:∀ b c,(w.alloc (.cells #[b,c] 115)).cell? ⟨w.heap.size,0,none⟩ = some b:=fun b c => by simp [go_sem]
 go_loopw [0,3] (fun y o wr => ∃ (z:Int) (out:List Int),y = .int .u64 z ∧ 0 ≤ z ∧ z ≤ 18446744073709551615 ∧ Hid (NatRel x out z) ∧
   Hid (wr.ownsRow (w.heap.size + 1) 3 1 o out.length (out.map (Value.int .i64))) ∧ Hid (Below (w.heap.size + 1) (w.alloc (.cells #[.bool false,.slice none 0 0] 115)) wr)) (fun y _ _ => (intOf y).toNat)
 case atStart => exact ⟨x,[],rfl,h0,h1,zh (NatRel.start x),zh (World.ownsRow_nil _ _ _ _),zh (Below.refl _ _)⟩
 case round =>
  obtain ⟨z,out,rfl,hz0',hz1',hR,hown,hnx⟩:=hrel;have hsz:=hnx.out.size;have hol:out.length ≤ 100:=hR.out.2.2.2
  by_cases hz:0 < z
  ·have hR2:=zh (hR.out.step hz h1);go_wp2_with (at_builtin; refine wpList_append_own _ rfl _ _ 69 rfl (w.heap.size + 1) 3 i0 (.int .i64 0) 1 8 Tryz.underlying69 hi hz0 hz1 hz2 rfl (by decide) _ _ _ rfl (hown.out.alloc _) ⟨wr.heap.size,0,none⟩ 1 1 [.int .i64 (z % 1000)] rfl rfl (cell_one_new _ _ _) (zqdx _ _) (room63 (by omega)) (room47 (by omega)) (by simp at hsz ⊢; omega) ?_; intro v' w1 hown' hgrow _)
   have hP:=zh (zqd8 rfl (by simpa using hsz) hnx.out hown.out hown' hgrow)
   clear hown' hgrow hown hnx hsz;go_wp2_with fail;go_roundw
   case rel => exact ⟨z / 1000,out ++ [z % 1000],rfl,by omega,by omega,hR2,zh hP.out.1,zh hP.out.2⟩
   case measure => simp [intOf]; omega
  ·obtain rfl:z = 0:=by omega
   have hE:=zh hR.out.stop;clear hR;obtain ⟨hp1,hp2,hp3,hp4⟩:=zqjk hnx.out;obtain ⟨a,cap,rfl⟩:=zqbr hown.out;go_wp2_with fail;have hN:=zqm7 (w:=w) (u:=.bool false) rfl (Below.refl _ _) ⟨false,_,out,rfl,Ints.own hown.out,Typed.own hown.out,hE.out.2.1,hE.out.2.2,(fun e => by cases e),rfl⟩ hnx.out
   refine bodyPost_ret (v:=.agg #[.bool false,.slice a out.length cap]) ?_ rfl ⟨_,rfl,?_,hN.2⟩
   ·simp [results,Tryz.results134,go_sem,hp1,hp2]
   ·have:=hN.1; rw [← hE.out.1]; exact this
set_option maxRecDepth 100000
open Go.RowKit
def Sized (n:Nat) (z:Int):Prop:=-(1000 ^ n:Int) < z ∧ z < 1000 ^ n
theorem zqrt (b:Bool) (z:Int):signed (!b) z = - signed b z:=by cases b <;> simp [signed]
theorem zqa1 {n:Nat} {neg:Bool} {ds:List Int} (hd:Dig ds) (ht:Tidy ds) (hs:Sized n (signed neg (val ds))):ds.length ≤ n:=by
 refine ht.len hd ?_;obtain ⟨h1,h2⟩:=hs;have:=zqa7 hd;cases neg <;> simp [signed] at h1 h2 <;> omega
set_option maxHeartbeats 1000000 in
theorem zqpm (v:Value) (z:Int) (n:Nat) (w:World) (h:IsNum w v z) (hs:Sized n z) (hn:n ≤ 1099511627775) :
  Calls Tryz.prog 126 #[v] w (MadeNum w (-z)):=by
 obtain ⟨neg,s,ds,rfl,h2,h3,hd,ht,hnn,rfl⟩:=h;have hl:=zqa1 hd ht hs;have hM:=zh (fun w1 (hb:Below w.heap.size w w1) => zqb9 (!neg) s ds w1 (h2.below hb) (h3.below hb) hd (by omega))
 obtain ⟨ap,ac,rfl,-,-⟩:=h2;have hG:=zh (zqrt neg (val ds));clear hs hnn ht h3;go_enter Tryz.func126,Tryz.ntmps126;go_wp2_with fail;refine (hM.out _ (((Below.refl _ _).alloc (Nat.le_refl _) _).alloc (by simp) _)).mono ?_
 rintro e w1 ⟨r,rfl,hr,hb⟩;have hr0:=hr;obtain ⟨rn,rs,rd,rfl,ri,-⟩:=hr0;obtain ⟨rp,rc,rfl,-,-⟩:=ri;have hb2:=hb;simp only [World.size_alloc] at hb2;obtain ⟨hp1,hp2,hp3,hp4⟩:=zqy0 (W:=w.alloc (.cells #[.bool neg,.slice ap ds.length ac] 115)) (N:=w.heap.size + 1) (by simp) hb2
 have hR:=zh hr;clear hr hb;go_wp2_with fail;have hN:=zqm7 (w:=w) (by simp) (zqab w _) hR.out hb2
 refine bodyPost_ret (v:=.agg #[.bool rn,.slice rp rd.length rc]) ?_ rfl ⟨_,rfl,?_,hN.2⟩
 ·simp [results,Tryz.results126,go_sem,hp1,hp2]
 ·have:=hN.1; rw [← hG.out]; exact this
def Kept (w:World) (N:Nat) (T:TypeId) (w':World):Prop:=Below w.heap.size w w' ∧ w.heap.size ≤ N ∧ ∃ x y,w'.heap[N]? = some (.cells #[x,y] T (0,0))
theorem Kept.call {w w1 w2:World} {N:Nat} {T:TypeId} (h:Kept w N T w1) (hb:Below w1.heap.size w1 w2):Kept w N T w2:=by
 obtain ⟨h1,h2,x,y,h3⟩:=h;have hN:=(Array.getElem?_eq_some_iff.1 h3).1;exact ⟨h1.trans (hb.mono h1.size),h2,x,y,by rw [hb.block N hN]; exact h3⟩
theorem zqkk {w:World} {N:Nat} {T:TypeId} {x y u v:Value} (h:w.heap[N]? = some (.cells #[x,y] T (0,0))):((w.setCell ⟨N,0,none⟩ u).setCell ⟨N,1,none⟩ v).heap[N]? = some (.cells #[u,v] T (0,0)):=by
 simp [World.setCell,Array.getElem?_modify,h]
theorem Kept.store {w w1:World} {N:Nat} {T:TypeId} (h:Kept w N T w1) (u v:Value):Kept w N T ((w1.setCell ⟨N,0,none⟩ u).setCell ⟨N,1,none⟩ v):=by
 obtain ⟨h1,h2,x,y,h3⟩:=h;exact ⟨(h1.setCell h2 _).setCell h2 _,h2,u,v,zqkk h3⟩
theorem Kept.cells {w w1:World} {N:Nat} {T:TypeId} (h:Kept w N T w1):(∃ x,w1.cell? ⟨N,0,none⟩ = some x) ∧ (∃ y,w1.cell? ⟨N,1,none⟩ = some y) ∧ w1.frozen? ⟨N,0,none⟩ = false ∧ w1.frozen? ⟨N,1,none⟩ = false:=by
 obtain ⟨h1,h2,x,y,h3⟩:=h;refine ⟨⟨x,by simp [World.cell?,h3]⟩,⟨y,by simp [World.cell?,h3]⟩,by simp [World.frozen?,h3],by simp [World.frozen?,h3]⟩
theorem Kept.num {w w1:World} {N:Nat} {z:Int} {u s:Value} (h:Kept w N 115 w1) (hr:IsNum w1 (.agg #[u,s]) z):IsNum ((w1.setCell ⟨N,0,none⟩ u).setCell ⟨N,1,none⟩ s) (.agg #[u,s]) z:=by
 obtain ⟨h1,h2,x,y,h3⟩:=h;obtain ⟨cur,h4⟩:=zqbo (p:=⟨N,0,none⟩) (u:=u) h3;exact (hr.set u h3 (by decide)).set s h4 (by decide)
def Boxes (w:World) (N:Nat) (a b c d:Value) (w':World):Prop :=
 w'.cell? ⟨N,0,none⟩ = some a ∧ w'.cell? ⟨N,1,none⟩ = some b ∧ w'.cell? ⟨N + 1,0,none⟩ = some c ∧ w'.cell? ⟨N + 1,1,none⟩ = some d ∧ Kept w (N + 1 + 1) 115 w'
theorem Boxes.call {w w1 w2:World} {N:Nat} {a b c d:Value} (h:Boxes w N a b c d w1) (hb:Below w1.heap.size w1 w2):Boxes w N a b c d w2 :=
 ⟨cell_later hb h.1,cell_later hb h.2.1,cell_later hb h.2.2.1,cell_later hb h.2.2.2.1,h.2.2.2.2.call hb⟩
theorem Boxes.drew {w w1:World} {N:Nat} {a b c d:Value} (h:Boxes w N a b c d w1):Boxes w N a b c d w1.drew:=h.call (Below.refl _ _).drew
theorem Boxes.store {w w1:World} {N:Nat} {a b c d:Value} (h:Boxes w N a b c d w1) (u v:Value):Boxes w N a b c d ((w1.setCell ⟨N + 1 + 1,0,none⟩ u).setCell ⟨N + 1 + 1,1,none⟩ v):=by
 have k0:N + 1 + 1 ≠ N:=by omega
 have k1:N + 1 + 1 ≠ N + 1:=by omega
 refine ⟨?_,?_,?_,?_,h.2.2.2.2.store u v⟩
 ·rw [World.cell?_setCell_far _ _ _ _ k0,World.cell?_setCell_far _ _ _ _ k0]; exact h.1
 ·rw [World.cell?_setCell_far _ _ _ _ k0,World.cell?_setCell_far _ _ _ _ k0]; exact h.2.1
 ·rw [World.cell?_setCell_far _ _ _ _ k1,World.cell?_setCell_far _ _ _ _ k1]; exact h.2.2.1
 ·rw [World.cell?_setCell_far _ _ _ _ k1,World.cell?_setCell_far _ _ _ _ k1]; exact h.2.2.2.1
theorem Boxes.start (w:World) (a b c d x y:Value):Boxes w w.heap.size a b c d (((w.alloc (.cells #[a,b] 115)).alloc (.cells #[c,d] 115)).alloc (.cells #[x,y] 115)):=by
 refine ⟨by simp [go_sem],by simp [go_sem],by simp [go_sem],by simp [go_sem],?_,by omega,x,y,?_⟩
 ·exact (((Below.refl _ _).alloc (Nat.le_refl _) _).alloc (by simp) _).alloc (by simp; omega) _
 ·have:=heap_alloc_new ((w.alloc (.cells #[a,b] 115)).alloc (.cells #[c,d] 115)) (.cells #[x,y] 115);simpa using this
set_option maxHeartbeats 1000000 in
theorem zqme (b1:Bool) (s1 s2:Value) (d1 d2:List Int) (w:World) (i1:Ints .i64 w s1 d1) (g1:Dig d1) (l1:d1.length ≤ 1099511627770) (i2:Ints .i64 w s2 d2) (g2:Dig d2) (l2:d2.length ≤ 1099511627770) :
  Calls Tryz.prog 77 #[.agg #[.bool b1,s1],.agg #[.bool b1,s2]] w (MadeNum w (signed b1 (val d1 + val d2))):=by
 have hS:=zh (fun w1 (hb:Below w.heap.size w w1) => zqry s1 s2 d1 d2 w1 (i1.below hb) (i2.below hb) g1 g2 (by omega) (by omega))
 obtain ⟨p1,c1,rfl,-,-⟩:=i1;obtain ⟨p2,c2,rfl,-,-⟩:=i2;have hB:=zh (Boxes.start w (.bool b1) (.slice p1 d1.length c1) (.bool b1) (.slice p2 d2.length c2) (.bool false) (.slice none 0 0));go_enter Tryz.func77,Tryz.ntmps77;go_wp2_with fail;go_region_held3 (fun w' => w'.cell? ⟨w.heap.size,0,none⟩ = some (.bool b1) ∧ w'.cell? ⟨w.heap.size,1,none⟩ = some (.slice p1 d1.length c1) ∧ w'.cell? ⟨w.heap.size + 1,0,none⟩ = some (.bool b1) ∧ w'.cell? ⟨w.heap.size + 1,1,none⟩ = some (.slice p2 d2.length c2) ∧ Kept w (w.heap.size + 1 + 1) 115 w')
  (first | exact hB.out.drew | exact Boxes.call ‹_› ‹Below _ _ _› | exact Boxes.store ‹_› _ _)
  (first
   | (go_at_call 131; refine (hS.out _ hB.out.2.2.2.2.1.drew).mono ?_; rintro e w1 ⟨v,out,rfl,hi,ht,hd,hv,hl,hb⟩)
   | (go_at_call 130; refine (zqb9 b1 _ _ _ hi ht hd (by omega)).mono ?_; rintro e w2 ⟨r,rfl,hr,hb2⟩; have hk:=(hB.out.drew.2.2.2.2.call hb).call hb2; obtain ⟨rn,rs,rd,rfl,ri,-⟩:=id hr; obtain ⟨rp,rc,rfl,-,-⟩:=ri; obtain ⟨⟨x1,hx1⟩,⟨y1,hy1⟩,hf1,hf2⟩:=hk.cells))
 have hN:=hk.num hr;have hE:=(hk.store (.bool rn) (.slice rp rd.length rc)).1;rw [hv] at hN;clear hk hr hb hb2 hB;go_wp2_with fail;exact bodyPost_ret (v:=.agg #[.bool rn,.slice rp rd.length rc]) (by simp [results,Tryz.results77,go_sem,hx1,hy1]) rfl ⟨_,rfl,hN,hE⟩
set_option maxHeartbeats 1000000 in
theorem zqp2 (s1 s2:Value) (d1 d2:List Int) (w:World) (i1:Ints .i64 w s1 d1) (g1:Dig d1) (l1:d1.length ≤ 1099511627770) (i2:Ints .i64 w s2 d2) (g2:Dig d2) (l2:d2.length ≤ 1099511627770) (hc:val d2 ≤ val d1) :
  Calls Tryz.prog 77 #[.agg #[.bool true,s1],.agg #[.bool false,s2]] w (MadeNum w (signed true (val d1 - val d2))):=by
 have hL:=zh (fun w1 (hb:Below w.heap.size w w1) => zqc0 s1 s2 d1 d2 w1 (i1.below hb) (i2.below hb) g1 g2 (by omega) (by omega))
 have hS:=zh (fun w1 (hb:Below w.heap.size w w1) => zqc8 s1 s2 d1 d2 w1 (i1.below hb) (i2.below hb) g1 g2 (by omega) hc)
 obtain ⟨p1,c1,rfl,-,-⟩:=i1;obtain ⟨p2,c2,rfl,-,-⟩:=i2;have hB:=zh (Boxes.start w (.bool true) (.slice p1 d1.length c1) (.bool false) (.slice p2 d2.length c2) (.bool false) (.slice none 0 0));have hC:0 ≤ cmpI (val d1) (val d2):=zqcx.2 hc;generalize cmpI (val d1) (val d2) = cc at *;go_enter Tryz.func77,Tryz.ntmps77;go_wp2_with fail;refine (hL.out _ hB.out.2.2.2.2.1).mono ?_; rintro e w' ⟨rfl,rfl⟩;go_wp2_with fail;go_region_held3 (fun w' => w'.cell? ⟨w.heap.size,0,none⟩ = some (.bool true) ∧ w'.cell? ⟨w.heap.size,1,none⟩ = some (.slice p1 d1.length c1) ∧ w'.cell? ⟨w.heap.size + 1,0,none⟩ = some (.bool false) ∧ w'.cell? ⟨w.heap.size + 1,1,none⟩ = some (.slice p2 d2.length c2) ∧ Kept w (w.heap.size + 1 + 1) 115 w')
  (first | exact hB.out.drew | exact Boxes.call ‹_› ‹Below _ _ _› | exact Boxes.store ‹_› _ _)
  (first
   | (go_at_call 133; refine (hS.out _ hB.out.2.2.2.2.1.drew).mono ?_; rintro e w1 ⟨v,out,rfl,hi,ht,hd,hv,hl,hb⟩)
   | (go_at_call 130; refine (zqb9 true _ _ _ hi ht hd (by omega)).mono ?_; rintro e w2 ⟨r,rfl,hr,hb2⟩; have hk:=(hB.out.drew.2.2.2.2.call hb).call hb2; obtain ⟨rn,rs,rd,rfl,ri,-⟩:=id hr; obtain ⟨rp,rc,rfl,-,-⟩:=ri; obtain ⟨⟨x1,hx1⟩,⟨y1,hy1⟩,hf1,hf2⟩:=hk.cells))
 have hN:=hk.num hr;have hE:=(hk.store (.bool rn) (.slice rp rd.length rc)).1;rw [hv] at hN;clear hk hr hb hb2 hB;go_wp2_with fail;exact bodyPost_ret (v:=.agg #[.bool rn,.slice rp rd.length rc]) (by simp [results,Tryz.results77,go_sem,hx1,hy1]) rfl ⟨_,rfl,hN,hE⟩
set_option maxHeartbeats 1000000 in
theorem zqp3 (s1 s2:Value) (d1 d2:List Int) (w:World) (i1:Ints .i64 w s1 d1) (g1:Dig d1) (l1:d1.length ≤ 1099511627770) (i2:Ints .i64 w s2 d2) (g2:Dig d2) (l2:d2.length ≤ 1099511627770) (hc:val d1 < val d2) :
  Calls Tryz.prog 77 #[.agg #[.bool true,s1],.agg #[.bool false,s2]] w (MadeNum w (signed false (val d2 - val d1))):=by
 have hL:=zh (fun w1 (hb:Below w.heap.size w w1) => zqc0 s1 s2 d1 d2 w1 (i1.below hb) (i2.below hb) g1 g2 (by omega) (by omega))
 have hS:=zh (fun w1 (hb:Below w.heap.size w w1) => zqc8 s2 s1 d2 d1 w1 (i2.below hb) (i1.below hb) g2 g1 (by omega) (by omega))
 obtain ⟨p1,c1,rfl,-,-⟩:=i1;obtain ⟨p2,c2,rfl,-,-⟩:=i2;have hB:=zh (Boxes.start w (.bool true) (.slice p1 d1.length c1) (.bool false) (.slice p2 d2.length c2) (.bool false) (.slice none 0 0));have hC:¬ 0 ≤ cmpI (val d1) (val d2):=(fun e => by have:=zqcx.1 e; omega)
 generalize cmpI (val d1) (val d2) = cc at *;go_enter Tryz.func77,Tryz.ntmps77;go_wp2_with fail;refine (hL.out _ hB.out.2.2.2.2.1).mono ?_; rintro e w' ⟨rfl,rfl⟩;go_wp2_with fail;go_region_held3 (fun w' => w'.cell? ⟨w.heap.size,0,none⟩ = some (.bool true) ∧ w'.cell? ⟨w.heap.size,1,none⟩ = some (.slice p1 d1.length c1) ∧ w'.cell? ⟨w.heap.size + 1,0,none⟩ = some (.bool false) ∧ w'.cell? ⟨w.heap.size + 1,1,none⟩ = some (.slice p2 d2.length c2) ∧ Kept w (w.heap.size + 1 + 1) 115 w')
  (first | exact hB.out.drew | exact Boxes.call ‹_› ‹Below _ _ _› | exact Boxes.store ‹_› _ _)
  (first
   | (go_at_call 133; refine (hS.out _ hB.out.2.2.2.2.1.drew).mono ?_; rintro e w1 ⟨v,out,rfl,hi,ht,hd,hv,hl,hb⟩)
   | (go_at_call 130; refine (zqb9 false _ _ _ hi ht hd (by omega)).mono ?_; rintro e w2 ⟨r,rfl,hr,hb2⟩; have hk:=(hB.out.drew.2.2.2.2.call hb).call hb2; obtain ⟨rn,rs,rd,rfl,ri,-⟩:=id hr; obtain ⟨rp,rc,rfl,-,-⟩:=ri; obtain ⟨⟨x1,hx1⟩,⟨y1,hy1⟩,hf1,hf2⟩:=hk.cells))
 have hN:=hk.num hr;have hE:=(hk.store (.bool rn) (.slice rp rd.length rc)).1;rw [hv] at hN;clear hk hr hb hb2 hB;go_wp2_with fail;exact bodyPost_ret (v:=.agg #[.bool rn,.slice rp rd.length rc]) (by simp [results,Tryz.results77,go_sem,hx1,hy1]) rfl ⟨_,rfl,hN,hE⟩
set_option maxHeartbeats 1000000 in
theorem zqp0 (s1 s2:Value) (d1 d2:List Int) (w:World) (i1:Ints .i64 w s1 d1) (g1:Dig d1) (l1:d1.length ≤ 1099511627770) (i2:Ints .i64 w s2 d2) (g2:Dig d2) (l2:d2.length ≤ 1099511627770) (hc:val d2 ≤ val d1) :
  Calls Tryz.prog 77 #[.agg #[.bool false,s1],.agg #[.bool true,s2]] w (MadeNum w (signed false (val d1 - val d2))):=by
 have hL:=zh (fun w1 (hb:Below w.heap.size w w1) => zqc0 s1 s2 d1 d2 w1 (i1.below hb) (i2.below hb) g1 g2 (by omega) (by omega))
 have hS:=zh (fun w1 (hb:Below w.heap.size w w1) => zqc8 s1 s2 d1 d2 w1 (i1.below hb) (i2.below hb) g1 g2 (by omega) hc)
 obtain ⟨p1,c1,rfl,-,-⟩:=i1;obtain ⟨p2,c2,rfl,-,-⟩:=i2;have hB:=zh (Boxes.start w (.bool false) (.slice p1 d1.length c1) (.bool true) (.slice p2 d2.length c2) (.bool false) (.slice none 0 0));have hC:0 ≤ cmpI (val d1) (val d2):=zqcx.2 hc;generalize cmpI (val d1) (val d2) = cc at *;go_enter Tryz.func77,Tryz.ntmps77;go_wp2_with fail;refine (hL.out _ hB.out.2.2.2.2.1).mono ?_; rintro e w' ⟨rfl,rfl⟩;go_wp2_with fail;go_region_held3 (fun w' => w'.cell? ⟨w.heap.size,0,none⟩ = some (.bool false) ∧ w'.cell? ⟨w.heap.size,1,none⟩ = some (.slice p1 d1.length c1) ∧ w'.cell? ⟨w.heap.size + 1,0,none⟩ = some (.bool true) ∧ w'.cell? ⟨w.heap.size + 1,1,none⟩ = some (.slice p2 d2.length c2) ∧ Kept w (w.heap.size + 1 + 1) 115 w')
  (first | exact hB.out.drew | exact Boxes.call ‹_› ‹Below _ _ _› | exact Boxes.store ‹_› _ _)
  (first
   | (go_at_call 133; refine (hS.out _ hB.out.2.2.2.2.1.drew).mono ?_; rintro e w1 ⟨v,out,rfl,hi,ht,hd,hv,hl,hb⟩)
   | (go_at_call 130; refine (zqb9 false _ _ _ hi ht hd (by omega)).mono ?_; rintro e w2 ⟨r,rfl,hr,hb2⟩; have hk:=(hB.out.drew.2.2.2.2.call hb).call hb2; obtain ⟨rn,rs,rd,rfl,ri,-⟩:=id hr; obtain ⟨rp,rc,rfl,-,-⟩:=ri; obtain ⟨⟨x1,hx1⟩,⟨y1,hy1⟩,hf1,hf2⟩:=hk.cells))
 have hN:=hk.num hr;have hE:=(hk.store (.bool rn) (.slice rp rd.length rc)).1;rw [hv] at hN;clear hk hr hb hb2 hB;go_wp2_with fail;exact bodyPost_ret (v:=.agg #[.bool rn,.slice rp rd.length rc]) (by simp [results,Tryz.results77,go_sem,hx1,hy1]) rfl ⟨_,rfl,hN,hE⟩
set_option maxHeartbeats 1000000 in
theorem zqp1 (s1 s2:Value) (d1 d2:List Int) (w:World) (i1:Ints .i64 w s1 d1) (g1:Dig d1) (l1:d1.length ≤ 1099511627770) (i2:Ints .i64 w s2 d2) (g2:Dig d2) (l2:d2.length ≤ 1099511627770) (hc:val d1 < val d2) :
  Calls Tryz.prog 77 #[.agg #[.bool false,s1],.agg #[.bool true,s2]] w (MadeNum w (signed true (val d2 - val d1))):=by
 have hL:=zh (fun w1 (hb:Below w.heap.size w w1) => zqc0 s1 s2 d1 d2 w1 (i1.below hb) (i2.below hb) g1 g2 (by omega) (by omega))
 have hS:=zh (fun w1 (hb:Below w.heap.size w w1) => zqc8 s2 s1 d2 d1 w1 (i2.below hb) (i1.below hb) g2 g1 (by omega) (by omega))
 obtain ⟨p1,c1,rfl,-,-⟩:=i1;obtain ⟨p2,c2,rfl,-,-⟩:=i2;have hB:=zh (Boxes.start w (.bool false) (.slice p1 d1.length c1) (.bool true) (.slice p2 d2.length c2) (.bool false) (.slice none 0 0));have hC:¬ 0 ≤ cmpI (val d1) (val d2):=(fun e => by have:=zqcx.1 e; omega)
 generalize cmpI (val d1) (val d2) = cc at *;go_enter Tryz.func77,Tryz.ntmps77;go_wp2_with fail;refine (hL.out _ hB.out.2.2.2.2.1).mono ?_; rintro e w' ⟨rfl,rfl⟩;go_wp2_with fail;go_region_held3 (fun w' => w'.cell? ⟨w.heap.size,0,none⟩ = some (.bool false) ∧ w'.cell? ⟨w.heap.size,1,none⟩ = some (.slice p1 d1.length c1) ∧ w'.cell? ⟨w.heap.size + 1,0,none⟩ = some (.bool true) ∧ w'.cell? ⟨w.heap.size + 1,1,none⟩ = some (.slice p2 d2.length c2) ∧ Kept w (w.heap.size + 1 + 1) 115 w')
  (first | exact hB.out.drew | exact Boxes.call ‹_› ‹Below _ _ _› | exact Boxes.store ‹_› _ _)
  (first
   | (go_at_call 133; refine (hS.out _ hB.out.2.2.2.2.1.drew).mono ?_; rintro e w1 ⟨v,out,rfl,hi,ht,hd,hv,hl,hb⟩)
   | (go_at_call 130; refine (zqb9 true _ _ _ hi ht hd (by omega)).mono ?_; rintro e w2 ⟨r,rfl,hr,hb2⟩; have hk:=(hB.out.drew.2.2.2.2.call hb).call hb2; obtain ⟨rn,rs,rd,rfl,ri,-⟩:=id hr; obtain ⟨rp,rc,rfl,-,-⟩:=ri; obtain ⟨⟨x1,hx1⟩,⟨y1,hy1⟩,hf1,hf2⟩:=hk.cells))
 have hN:=hk.num hr;have hE:=(hk.store (.bool rn) (.slice rp rd.length rc)).1;rw [hv] at hN;clear hk hr hb hb2 hB;go_wp2_with fail;exact bodyPost_ret (v:=.agg #[.bool rn,.slice rp rd.length rc]) (by simp [results,Tryz.results77,go_sem,hx1,hy1]) rfl ⟨_,rfl,hN,hE⟩
theorem MadeNum.to {w:World} {z z':Int} (h:z = z'):∀ e w',MadeNum w z e w' → MadeNum w z' e w':=fun _ _ k => h ▸ k
theorem zqc3 (u v:Value) (x y:Int) (n:Nat) (w:World) (hu:IsNum w u x) (hv:IsNum w v y) (hx:Sized n x) (hy:Sized n y) (hn:n ≤ 1099511627770) :
  Calls Tryz.prog 77 #[u,v] w (MadeNum w (x + y)):=by
 obtain ⟨b1,s1,d1,rfl,i1,t1,g1,y1,-,rfl⟩:=hu;obtain ⟨b2,s2,d2,rfl,i2,t2,g2,y2,-,rfl⟩:=hv;have l1:=zqa1 g1 y1 hx;have l2:=zqa1 g2 y2 hy;have l1:d1.length ≤ 1099511627770:=by omega
 have l2:d2.length ≤ 1099511627770:=by omega
 cases b1 <;> cases b2
 ·exact (zqme false s1 s2 d1 d2 w i1 g1 l1 i2 g2 l2).mono (MadeNum.to (by simp [signed]))
 ·by_cases h:val d2 ≤ val d1
  ·exact (zqp0 s1 s2 d1 d2 w i1 g1 l1 i2 g2 l2 h).mono (MadeNum.to (by simp [signed]; omega))
  ·exact (zqp1 s1 s2 d1 d2 w i1 g1 l1 i2 g2 l2 (by omega)).mono (MadeNum.to (by simp [signed]; omega))
 ·by_cases h:val d2 ≤ val d1
  ·exact (zqp2 s1 s2 d1 d2 w i1 g1 l1 i2 g2 l2 h).mono (MadeNum.to (by simp [signed]; omega))
  ·exact (zqp3 s1 s2 d1 d2 w i1 g1 l1 i2 g2 l2 (by omega)).mono (MadeNum.to (by simp [signed]; omega))
 ·exact (zqme true s1 s2 d1 d2 w i1 g1 l1 i2 g2 l2).mono (MadeNum.to (by simp [signed]; omega))
theorem Tryz.infoU8:(Tryz.prog.info? 5).map (fun i => (i.zero,i.size,i.bytes)) = some (some (.int .u8 0),1,1):=by kernel_rfl
theorem zqaa {w W W':World} (h:Below w.heap.size w W) (hb:Below W.heap.size W W'):Below w.heap.size w W':=h.trans (hb.mono h.size)
theorem zqhl {w w':World} (hb:Below w.heap.size w w') (row:Option Nat):w.grownBy w' row:=⟨hb.os,hb.tape,hb.output,hb.size,fun k hk _ => hb.block k hk⟩
theorem zqa0 {a b c:World} {N:Nat} (h:a.grownBy b (some N)) (k:b.grownBy c (some N)):a.grownBy c (some N) :=
 ⟨k.os.trans h.os,k.tape.trans h.tape,k.output.trans h.output,Nat.le_trans h.size k.size,fun i hi hn => (k.block i (Nat.lt_of_lt_of_le hi h.size) hn).trans (h.block i hi hn)⟩
theorem zqax (w:World) (N j:Nat) (u:Value):w.grownBy (w.setCell ⟨N,j,none⟩ u) (some N) :=
 ⟨rfl,rfl,rfl,by simp [World.setCell],fun k _ hn => Below.heap_setCell _ _ _ _ (by simpa using hn)⟩
theorem zqqr {w w':World} {row:Option Nat} (h:w.grownBy w' row):w.grownBy w'.drew row:=⟨h.os,h.tape,h.output,h.size,h.block⟩
theorem Ints.grown {E T:TypeId} {k:IntKind} {w w':World} {v:Value} {zs:List Int} {N:Nat} {cur:Array Value} {fr:Nat × Nat} (h:Ints k w v zs) (ht:Typed E w v) (hp:w.heap[N]? = some (.cells cur T fr)) (hne:T ≠ E) (hg:w.grownBy w' (some N)):Ints k w' v zs:=by
 obtain ⟨a,cap,rfl,hl,hc⟩:=h;refine ⟨a,cap,rfl,hl,hc.imp id ?_⟩;rintro ⟨b,off,rfl,hb,hcell⟩;have hbN:b ≠ N:=by
  rintro rfl;obtain ⟨cur',fr',h'⟩:=ht b off _ _ rfl;rw [hp] at h';simp only [Option.some.injEq,Obj.cells.injEq] at h';exact hne h'.2.1
 have hblk:=hg.block b hb (by simpa using hbN)
 refine ⟨b,off,rfl,by have:=hg.size; omega,fun i hi => ?_⟩
 rw [World.cell?_of_block (a:=⟨b,off + i,none⟩) hblk]; exact hcell i hi
theorem Typed.grown {E T:TypeId} {w w':World} {v:Value} {N:Nat} {cur:Array Value} {fr:Nat × Nat} (ht:Typed E w v) (hp:w.heap[N]? = some (.cells cur T fr)) (hne:T ≠ E) (hg:w.grownBy w' (some N)):Typed E w' v:=by
 intro b off l c e;obtain ⟨cur',fr',h'⟩:=ht b off l c e;refine ⟨cur',fr',?_⟩;rw [hg.block b (Array.getElem?_eq_some_iff.1 h').1 ?_]
 ·exact h'
 ·intro e2;simp only [Option.some.injEq] at e2;subst e2;rw [hp] at h';simp only [Option.some.injEq,Obj.cells.injEq] at h';exact hne h'.2.1
end Go.Proofs.YtmnbljijnbhghaaGreatDoor
