/- Contracts that the law leans on: Sche. -/
import Derived.Lib.AppendZeros
import Derived.Deep.RegionHeld3
import Derived.Test.YtmnbljijnbhghaaGreatDoorPt02
import Derived.Test.YtmnbljijnbhghaaGreatDoorPt07
namespace Go.Proofs.YtmnbljijnbhghaaGreatDoor
set_option maxRecDepth 100000
open Go.RowKit
set_option linter.unusedVariables false
structure Sc where
 ds:List (ByteArray × Int)
 is:List ByteArray
 ns:List ByteArray
 vs:List Int
def dn (ds:List (ByteArray × Int)) (i:Nat):ByteArray:=(ds.getD i (ByteArray.empty,0)).1
def dz (ds:List (ByteArray × Int)) (i:Nat):Int:=(ds.getD i (ByteArray.empty,0)).2
theorem zqso {ds:List (ByteArray × Int)} {i:Nat} (h:i < ds.length):dn ds i = ds[i].1:=by simp [dn,List.getD,List.getElem?_eq_getElem h]
theorem zqi0 {ds:List (ByteArray × Int)} {i:Nat} (h:i < ds.length):dz ds i = ds[i].2:=by simp [dz,List.getD,List.getElem?_eq_getElem h]
def Dims (w:World) (v:Value) (ds:List (ByteArray × Int)):Prop :=
 ∃ a cap,v = .slice a ds.length cap ∧ ds.length ≤ cap ∧ ds.length ≤ 9223372036854775807 ∧ (ds = [] ∨ ∃ b off,a = some ⟨b,off,none⟩ ∧ b < w.heap.size ∧
  ∀ i,i < ds.length → w.cell? ⟨b,off + i * 2,none⟩ = some (.string (dn ds i)) ∧ w.cell? ⟨b,off + i * 2 + 1,none⟩ = some (.int .i64 (dz ds i)))
theorem Dims.below {w w':World} {v:Value} {ds:List (ByteArray × Int)} (h:Dims w v ds) (hb:Below w.heap.size w w'):Dims w' v ds:=by
 obtain ⟨a,cap,rfl,h1,h2,h3⟩:=h;refine ⟨a,cap,rfl,h1,h2,?_⟩;rcases h3 with h3 | ⟨b,off,rfl,hlt,hc⟩
 ·exact .inl h3
 ·exact .inr ⟨b,off,rfl,Nat.lt_of_lt_of_le hlt hb.size,fun i hi => ⟨(hb.cell (p:=⟨b,_,none⟩) hlt).trans (hc i hi).1,(hb.cell (p:=⟨b,_,none⟩) hlt).trans (hc i hi).2⟩⟩
abbrev SchV (D I N V:Value):Value:=.agg #[D,I,N,V]
abbrev SchO (D I N V:Value):Obj:=.cells #[D,I,N,V] 26
structure Sch4 (w:World) (D I N V:Value) (S:Sc):Prop where
 d:Dims w D S.ds
 i:Strs w I S.is
 n:Strs w N S.ns
 v:Ints .u32 w V S.vs
theorem Sch4.below {w w':World} {D I N V:Value} {S:Sc} (h:Sch4 w D I N V S) (hb:Below w.heap.size w w'):Sch4 w' D I N V S:=⟨h.d.below hb,h.i.below hb,h.n.below hb,h.v.below hb⟩
theorem Sch4.slices {w:World} {D I N V:Value} {S:Sc} (h:Sch4 w D I N V S):(∃ a c,D = .slice a S.ds.length c) ∧ (∃ a c,I = .slice a S.is.length c) ∧ (∃ a c,N = .slice a S.ns.length c) ∧ ∃ a c,V = .slice a S.vs.length c:=by
 obtain ⟨⟨a,c,h1,-⟩,⟨a2,c2,h2,-⟩,⟨a3,c3,h3,-⟩,a4,c4,h4,-⟩:=h;exact ⟨⟨a,c,h1⟩,⟨a2,c2,h2⟩,⟨a3,c3,h3⟩,a4,c4,h4⟩
structure SWf (S:Sc):Prop where
 d:∀ d ∈ S.ds,d.1.size ≤ maxLen ∧ -9223372036854775808 ≤ d.2 ∧ d.2 ≤ 9223372036854775807
 i:∀ s ∈ S.is,s.size ≤ maxLen
 n:∀ s ∈ S.ns,s.size ≤ maxLen
 v:∀ v ∈ S.vs,0 ≤ v ∧ v ≤ 4294967295
theorem zqei {w w':World} {p:Addr} {v:Value} (hb:Below w.heap.size w w') (h:w.cell? p = some v):w'.cell? p = some v:=by
 rw [hb.cell (World.block_lt_of_cell? w p h)]; exact h
def Box (w:World) (N:Nat) (D I M V:Value):Prop:=w.heap[N]? = some (.cells #[D,I,M,V] 26 (0,0))
theorem Box.reads {w:World} {N:Nat} {D I M V:Value} (h:Box w N D I M V):w.cell? ⟨N,0,none⟩ = some D ∧ w.cell? ⟨N,1,none⟩ = some I ∧ w.cell? ⟨N,2,none⟩ = some M ∧ w.cell? ⟨N,3,none⟩ = some V:=by
 unfold Box at h;refine ⟨by simp [World.cell?,h],by simp [World.cell?,h],by simp [World.cell?,h],by simp [World.cell?,h]⟩
theorem Box.lt {w:World} {N:Nat} {D I M V:Value} (h:Box w N D I M V):N < w.heap.size:=(Array.getElem?_eq_some_iff.1 h).1
theorem Box.below {w w':World} {N:Nat} {D I M V:Value} (h:Box w N D I M V) (hb:Below w.heap.size w w'):Box w' N D I M V:=by
 unfold Box; rw [hb.block N h.lt]; exact h
theorem zqau (w:World) (D I M V:Value):Box (w.alloc (SchO D I M V)) w.heap.size D I M V:=heap_alloc_new w _
def namesL (S:Sc):List ByteArray:=S.ds.map Prod.fst ++ S.is ++ S.ns
def cntB (S:Sc):Bool:=decide (1 ≤ S.ds.length) && decide (S.ds.length ≤ 6) && decide (S.is.length ≤ 3) && decide (S.ns.length ≤ 2) && decide (S.vs.length ≤ 15)
theorem zqcc {S:Sc}:cntB S = true ↔ (1 ≤ S.ds.length ∧ S.ds.length ≤ 6 ∧ S.is.length ≤ 3 ∧ S.ns.length ≤ 2 ∧ S.vs.length ≤ 15):=by simp [cntB,and_assoc]
def prodL (ds:List (ByteArray × Int)):Int:=ds.foldl (fun p d => p * d.2) 1
theorem zqeu {ds:List (ByteArray × Int)} {k:Nat} (hk:k < ds.length):prodL (ds.take (k + 1)) = prodL (ds.take k) * dz ds k:=by
 unfold prodL;rw [List.take_add_one,List.getElem?_eq_getElem hk,List.foldl_append,zqi0 hk]
 rfl
def sizAt (ds:List (ByteArray × Int)) (k:Nat):Bool:=decide (1 ≤ dz ds k) && decide (dz ds k ≤ 4096) && decide (prodL (ds.take (k + 1)) ≤ 1099511627776)
def sizB (ds:List (ByteArray × Int)):Bool:=(List.range ds.length).all (sizAt ds)
theorem zqpt {ds:List (ByteArray × Int)} {k:Nat} (hk:k < ds.length) (h:sizAt ds k = false):sizB ds = false:=List.all_eq_false.2 ⟨k,by simpa using hk,by simp [h]⟩
theorem zqno {ds:List (ByteArray × Int)} (h:∀ j,j < ds.length → sizAt ds j = true):sizB ds = true:=List.all_eq_true.2 fun x hx => h x (by simpa using hx)
theorem zqcj {ds:List (ByteArray × Int)} (h:sizB ds = true) {k:Nat} (hk:k < ds.length):1 ≤ dz ds k ∧ dz ds k ≤ 4096 ∧ prodL (ds.take (k + 1)) ≤ 1099511627776:=by
 have:=List.all_eq_true.1 h k (by simpa using hk)
 simpa [sizAt,and_assoc] using this
def vieAt (m:Int) (vs:List Int) (k:Nat):Bool:=decide (vs.getD k 0 < m) && (decide (k = 0) || decide (vs.getD (k - 1) 0 < vs.getD k 0))
def vieB (m:Int) (vs:List Int):Bool:=(List.range vs.length).all (vieAt m vs)
theorem zqpx {m:Int} {vs:List Int} {k:Nat} (hk:k < vs.length) (h:vieAt m vs k = false):vieB m vs = false:=List.all_eq_false.2 ⟨k,by simpa using hk,by simp [h]⟩
theorem zqnz {m:Int} {vs:List Int} (h:∀ j,j < vs.length → vieAt m vs j = true):vieB m vs = true:=List.all_eq_true.2 fun x hx => h x (by simpa using hx)
def fullL (ds:List (ByteArray × Int)):Int:=2 ^ ds.length - 1
def goodN (l:List ByteArray):Bool:=(List.range l.length).all fun k => nameB (txt l k)
theorem zqk2 {l:List ByteArray} {k:Nat} (hk:k < l.length) (h:nameB (txt l k) = false):goodN l = false:=List.all_eq_false.2 ⟨k,by simpa using hk,by simp [h]⟩
theorem zqi8 {l:List ByteArray} (h:∀ j,j < l.length → nameB (txt l j) = true):goodN l = true:=List.all_eq_true.2 fun x hx => h x (by simpa using hx)
def checkL (S:Sc):Nat:=if cntB S = false then 3 else if goodN (namesL S) = false then 8 else if 0 ≤ twiceL (namesL S) then 9 else if sizB S.ds = false then 2 else if vieB (fullL S.ds) S.vs = false then 6 else 0
abbrev SOwn (w:World) (B:Nat) (v:Value) (l:List ByteArray):Prop:=w.ownsRow B 9 1 v l.length (l.map Value.string)
theorem sown0 (w:World) (B:Nat):SOwn w B (.slice none 0 0) []:=⟨by simp,.inl ⟨rfl,rfl⟩⟩
theorem Strs.own {w:World} {B:Nat} {v:Value} {l:List ByteArray} (h:SOwn w B v l):Strs w v l:=by
 obtain ⟨hl,h⟩:=h;rcases h with ⟨rfl,h0⟩ | ⟨g,cap,cur,rfl,_,hb,hnc,hm,hs,ht⟩
 ·have:l = []:=List.length_eq_zero_iff.1 h0;subst this;exact ⟨none,0,rfl,by simp,by simp,.inl rfl⟩
 ·refine ⟨_,cap,rfl,hnc,by unfold maxLen at hm; omega,.inr ⟨g,0,rfl,(Array.getElem?_eq_some_iff.1 hb).1,fun i hi => ?_⟩⟩
  have e:cur.toList[i]? = some (.string (txt l i)):=by
   have h1:(cur.toList.take (l.length * 1))[i]? = (l.map Value.string)[i]?:=by rw [ht]
   rw [List.getElem?_take,if_pos (by omega)] at h1
   rw [h1]; simp [txt,List.getD,hi]
  rw [Nat.zero_add,cell_of_row _ _ i _ _ (0,0) hb];simpa using e
section
variable {P : Program} (w : World)
theorem zqez (base:Nat) (t ty e:TypeId) (i:TypeInfo) (z:Value) (bytes:Nat) (ht:P.underlying t = some (.slice e)) (hi:P.info? e = some i) (hz:i.zero = some z) (hsize:i.size = 1) (hby:i.bytes = bytes) (hzs:z.cells.size = 1)
  (v v2:Value) (zs ns:List ByteArray) (hown:w.ownsRow base e 1 v zs.length (zs.map Value.string)) (hv2:Strs w v2 ns) (h63:zs.length + ns.length ≤ maxLen) (hbytes:(zs.length + ns.length) * bytes ≤ 140737488355328) (hbase:base ≤ w.heap.size) :
  ∃ v' w',(Builtin.append_ #[t,t] ty #[v,v2]).run P w = .ok v' w' ∧ w'.ownsRow base e 1 v' (zs ++ ns).length ((zs ++ ns).map Value.string) ∧ w.grownBy w' v.ownBlock:=by
 obtain ⟨a,cap,rfl,hc,-,ha⟩:=hv2;have one:∀ u ∈ ns.map Value.string,u.oneCell' = true:=by
  intro u hu; obtain ⟨x,_,rfl⟩:=List.mem_map.1 hu; rfl
 have fin:∀ (v':Value) (w':World),w'.ownsRow base e 1 v' (zs.length + ns.length) (zs.map Value.string ++ ns.map Value.string) → w'.ownsRow base e 1 v' (zs ++ ns).length ((zs ++ ns).map Value.string):=fun v' w' h => by
  simpa using h
 cases a with
 | none =>
  have hn:ns = []:=by
   rcases ha with h | ⟨b,off,h,_⟩
   ·exact h
   ·cases h
  subst hn;exact ⟨v,w,zqob w base t ty e i 1 ht hi v _ _ hown cap,fin v w (by simpa using hown),World.grownBy.refl w _⟩
 | some ad =>
  have hnews:∀ j u,(ns.map Value.string)[j]? = some u → w.cell? (ad.add j) = some u:=fun j u hj => by
   rcases ha with h | ⟨b,off,h,_,hcell⟩
   ·subst h; simp at hj
   ·simp only [Option.some.injEq] at h;subst h;rw [List.getElem?_map] at hj;obtain ⟨x,hx,rfl⟩:=Option.map_eq_some_iff.1 hj;have hl:=(List.getElem?_eq_some_iff.1 hx).1;have hh:=hcell j hl;have e1:txt ns j = x:=by simp [txt,List.getD,hx]
    rw [e1] at hh
    by_cases h0:j = 0
    ·subst h0; simpa [Addr.add] using hh
    ·simpa [Addr.add,h0] using hh
  obtain ⟨v',w',hrun,r1,r2,_⟩:=run_append_own (P:=P) w base t ty e i z 1 bytes ht hi hz hsize hby hzs (by omega) v zs.length _ hown ad ns.length cap (ns.map Value.string) (by simp) hnews one h63 hbytes hbase
  exact ⟨v',w',hrun,fin v' w' r1,r2⟩
theorem zqbv {ops:Array Oper} {rest:List Oper} {o:Oper} {a:Act} {Q:Exit → Act → World → Prop} (hw:Region.wanted o (yielded ops a.tmps) = true) (s x:Operand) (t:TypeId)
  (ho:o.op = .call { callee:=.builtin .append,args:=#[s,x],argTypes:=#[t,t] })
  (base:Nat) (e:TypeId) (i:TypeInfo) (z:Value) (bytes:Nat) (ht:P.underlying t = some (.slice e)) (hi:P.info? e = some i) (hz:i.zero = some z) (hsize:i.size = 1) (hby:i.bytes = bytes) (hzs:z.cells.size = 1)
  (v v2:Value) (zs ns:List ByteArray) (hs:a.eval s = v) (hx:a.eval x = v2) (hown:w.ownsRow base e 1 v zs.length (zs.map Value.string)) (hv2:Strs w v2 ns) (h63:zs.length + ns.length ≤ maxLen) (hbytes:(zs.length + ns.length) * bytes ≤ 140737488355328) (hbase:base ≤ w.heap.size)
  (h:∀ v' w',w'.ownsRow base e 1 v' (zs ++ ns).length ((zs ++ ns).map Value.string) → w.grownBy w' v.ownBlock → wpList P ops Q rest (a.put o.dst v') w'):wpList P ops Q (o :: rest) a w :=
 BigFrame.wpList_want hw fun _ hK => by
  obtain ⟨v',w',hrun,r1,r2⟩:=zqez (P:=P) w base t o.type e i z bytes ht hi hz hsize hby hzs v v2 zs ns hown hv2 h63 hbytes hbase;unfold Oper.wp;simp [execOp,ho,resolve,invoke,builtin,hs,hx,hrun,Result.andThen];exact hK _ _ (h v' w' r1 r2)
end
theorem Tryz.infoStr:(Tryz.prog.info? 9).map (fun i => (i.zero,i.size,i.bytes)) = some (some (.string ⟨#[]⟩),1,16):=by kernel_rfl
def MadeS (B:Nat) (w:World) (l:List ByteArray) (e:Ending) (w':World):Prop:=(∃ v,e = .returned v ∧ SOwn w' B v l) ∧ Below B w w'
set_option maxRecDepth 100000
open Go.RowKit
set_option linter.unusedVariables false
theorem zqce {n:Nat} (hn:n ≤ 6):((2 ^ n - 1:Int) % 4294967296 = 2 ^ n - 1) ∧ (0:Int) ≤ 2 ^ n - 1 ∧ (2:Int) ^ n - 1 ≤ 63:=by
 rcases (by omega:n = 0 ∨ n = 1 ∨ n = 2 ∨ n = 3 ∨ n = 4 ∨ n = 5 ∨ n = 6) with rfl | rfl | rfl | rfl | rfl | rfl | rfl <;> decide
theorem ret_b {a b:Bool} (h:a = b):Ending.returned (.bool a) = Ending.returned (.bool b):=by rw [h]
theorem zqmj (w:World) (D I M V:Value) (S:Sc) (h:Sch4 w D I M V S) (hn:S.ds.length ≤ 6) :
  Calls Tryz.prog 61 #[SchV D I M V] w fun e w' => e = .returned (.int .u32 (fullL S.ds)) ∧ Below w.heap.size w w':=by
 obtain ⟨⟨a,c,rfl⟩,-,-,-⟩:=h.slices;have HB:=zh (zqab w (SchO (.slice a S.ds.length c) I M V));have hf:=zqce hn;clear h;go_enter Tryz.func61,Tryz.ntmps61;go_wp2_with fail;go_ret;exact ⟨rfl,HB.out⟩
theorem zqoo (w:World) (D I M V:Value) (S:Sc) (h:Sch4 w D I M V S) :
  Calls Tryz.prog 87 #[SchV D I M V] w fun e w' => e = .returned (.bool (cntB S)) ∧ Below w.heap.size w w':=by
 obtain ⟨⟨a,c,rfl⟩,⟨a2,c2,rfl⟩,⟨a3,c3,rfl⟩,a4,c4,rfl⟩:=h.slices;have HB:=zh (zqab w (SchO (.slice a S.ds.length c) (.slice a2 S.is.length c2) (.slice a3 S.ns.length c3) (.slice a4 S.vs.length c4)));have HC:=zh (show cntB S = (decide (1 ≤ S.ds.length) && decide (S.ds.length ≤ 6) && decide (S.is.length ≤ 3) && decide (S.ns.length ≤ 2) && decide (S.vs.length ≤ 15)) from rfl);generalize cntB S = r at *;clear h;go_enter Tryz.func87,Tryz.ntmps87;go_wp2
 all_goals
  go_ret;refine ⟨ret_b ?_,HB.out⟩;rw [HC.out,Bool.eq_iff_iff];simp;omega
theorem zqnq {W:World} {x:ByteArray} {N:Nat} {T:TypeId} (hN:W.heap.size = N):Strs (W.alloc (.cells #[.string x] T)) (.slice (some ⟨N,0,none⟩) 1 1) [x]:=by
 subst hN; exact zqip W [x] T (by simp)
theorem zqcu {B:Nat} {w W w1:World} {o:Value} {n:Nat} {xs:List Value} {E:TypeId} (hnx:Below B w W) (hB:B ≤ W.heap.size) (hown:W.ownsRow B E 1 o n xs) (hg:W.grownBy w1 o.ownBlock):Below B w w1 :=
 hnx.grown hg hB (fun k hk => (hown.lt k hk).1)
set_option maxHeartbeats 2000000 in
theorem zqmp (w:World) (D I M V:Value) (S:Sc) (h:Sch4 w D I M V S) (hn:S.ds.length ≤ 1000) :
  Calls Tryz.prog 89 #[SchV D I M V] w (MadeS w.heap.size w (S.ds.map Prod.fst)):=by
 obtain ⟨i0,hi,hz0,hz1,hz2⟩:=info_parts Tryz.infoStr;obtain ⟨a,cap,rfl,h1,h2,h3⟩:=h.d;have HB:=zh (zqab w (SchO (.slice a S.ds.length cap) I M V));clear h;rcases h3 with h3 | ⟨b,off,rfl,hlt,hc⟩
 ·rw [h3] at *;go_enter Tryz.func89,Tryz.ntmps89;go_wp2;refine wp_loop_rounds 1 ?_;rw [rounds_succ];go_wp2;go_ret;exact ⟨⟨_,rfl,sown0 _ _⟩,zqab w _⟩
 ·have HC:=zh hc;have HT:=zh (fun k (hk:k < S.ds.length) => show ((S.ds.take k).map Prod.fst) ++ [dn S.ds k] = (S.ds.take (k + 1)).map Prod.fst by rw [List.take_add_one,List.getElem?_eq_getElem hk,zqso hk,List.map_append]; rfl)
  have HL:=zh (fun k => show ((S.ds.take k).map Prod.fst).length ≤ 1000 by simp; omega)
  have HE:=zh (show (S.ds.take S.ds.length).map Prod.fst = S.ds.map Prod.fst by rw [List.take_length])
  generalize hnn:S.ds.length = n at *;clear hc;go_enter Tryz.func89,Tryz.ntmps89;go_wp2;go_loopw [3,9] (fun lv i wr => ∃ k:Nat,k ≤ n ∧ i = .int .i64 k ∧ Hid (SOwn wr w.heap.size lv ((S.ds.take k).map Prod.fst) ∧ Below w.heap.size w wr)) (fun _ i _ => n - (intOf i).toNat)
  case atStart => exact ⟨0,Nat.zero_le _,rfl,zh ⟨sown0 _ _,HB.out⟩⟩
  case round =>
   obtain ⟨k,hk,rfl,HS⟩:=hrel
   by_cases hlk:k < n
   ·obtain ⟨c0,c1⟩:=HC.out k hlk;have c0:wr.cell? ⟨b,off + k * 2,none⟩ = _:=(HS.out.2.cell (p:=⟨b,off + k * 2,none⟩) hlt).trans c0;have c1:wr.cell? ⟨b,off + k * 2 + 1,none⟩ = _:=(HS.out.2.cell (p:=⟨b,off + k * 2 + 1,none⟩) hlt).trans c1;have HTk:=zh (HT.out k hlk);have HLk:=zh (HL.out k);generalize dn S.ds k = x at *;generalize dz S.ds k = z at *;generalize (S.ds.take k).map Prod.fst = L at *;obtain ⟨pa,pl,pc,rfl⟩:=zqam HS.out.1;have hsz:=HS.out.2.size;go_wp2_with (at_builtin; refine zqbv _ (by rfl) _ _ 23 rfl w.heap.size 9 i0 (.string ⟨#[]⟩) 16 Tryz.underlying23 hi hz0 hz1 hz2 rfl _ _ L [x] rfl rfl ((HS.out.1.alloc _).alloc _) (zqnq (by simp)) (by have:=HLk.out; unfold maxLen; simp; omega) (by have:=HLk.out; simp; omega) (by simp; omega) ?_; intro v' w1 hown hgrow; have HQ:=zh (And.intro hown (zqcu ((HS.out.2.alloc hsz _).alloc (by simp; omega) _) (by simp; omega) ((HS.out.1.alloc _).alloc _) hgrow)); obtain ⟨pv',lv',cv',rfl⟩:=zqam hown; clear hown hgrow)
    go_roundw
    case rel => exact ⟨k + 1,by omega,by go_num,zh ⟨by rw [← HTk.out]; exact HQ.out.1,HQ.out.2⟩⟩
    case measure => simp [intOf]; omega
   ·have:k = n:=by omega
    subst this;have HS2:=HS.out;rw [HE.out] at HS2;have HS3:=zh HS2;clear HS2;obtain ⟨pa,pl,pc,rfl⟩:=zqam HS3.out.1;go_wp2;go_ret;exact ⟨⟨_,rfl,HS3.out.1⟩,HS3.out.2⟩
set_option maxHeartbeats 1000000 in
theorem zqmi (v:Value) (l:List ByteArray) (w:World) (h:Strs w v l) (hs:∀ s ∈ l,s.size ≤ maxLen) :
  Calls Tryz.prog 90 #[v] w fun e w' => e = .returned (.bool (goodN l)) ∧ Below w.heap.size w w':=by
 obtain ⟨a,cap,rfl,h1,h2,h3⟩:=h;rcases h3 with rfl | ⟨b,off,rfl,hlt,hc⟩
 ·go_enter Tryz.func90,Tryz.ntmps90;go_wp2;refine wp_loop_rounds 1 ?_;rw [rounds_succ];go_wp2;go_ret;exact ⟨rfl,Below.refl _ _⟩
 ·have HC:=zh hc;have HM:=zh (@zqi8 l);have HH:=zh (fun k => @zqk2 l k)
  have HI:=zh (fun k (hk:k < l.length) wr => zqqw (txt l k) wr (by rw [zqc5 hk]; exact hs _ (List.getElem_mem hk)))
  generalize goodN l = r at *;clear hc hs;go_enter Tryz.func90,Tryz.ntmps90;go_wp2;go_loopw [7] (fun i wr => ∃ k:Nat,k ≤ l.length ∧ i = .int .i64 k ∧ Hid (Below w.heap.size w wr) ∧ Hid (∀ j,j < k → nameB (txt l j) = true)) (fun i _ => l.length - (intOf i).toNat)
  case atStart => exact ⟨0,Nat.zero_le _,rfl,zh (Below.refl _ _),zh (fun j hj => by omega)⟩
  case round =>
   obtain ⟨k,hk,rfl,HB,HJ⟩:=hrel
   by_cases hlk:k < l.length
   ·have hx:wr.cell? ⟨b,off + k,none⟩ = some (.string (txt l k)):=(HB.out.cell (p:=⟨b,off + k,none⟩) hlt).trans (HC.out k hlk);have HIk:=zh (HI.out k hlk wr);have HHk:=zh (fun q => HH.out k hlk q)
    have HQ:=zh (fun q:nameB (txt l k) = true => fun j (hj:j < k + 1) => if e:j = k then (e ▸ q:nameB (txt l j) = true) else HJ.out j (by omega))
    generalize nameB (txt l k) = t at *;generalize txt l k = x at *;go_wp2_with fail;refine (HIk.out).mono ?_; rintro e w1 ⟨rfl,hb⟩;have HB1:=zh (HB.out.trans (hb.mono HB.out.size));clear hb;cases t with
    | true =>
     have HQ2:=zh (HQ.out rfl);go_wp2;go_roundw
     case rel => exact ⟨k + 1,by omega,by go_num,HB1,HQ2⟩
     case measure => simp [intOf]; omega
    | false =>
     have HR:=zh (HHk.out rfl);go_wp2;go_ret;rw [HR.out];exact ⟨rfl,HB1.out⟩
   ·have:k = l.length:=by omega
    subst this;have HR:=zh (HM.out HJ.out);go_wp2;go_ret;rw [HR.out];exact ⟨rfl,HB.out⟩
set_option maxRecDepth 100000
open Go.RowKit
set_option linter.unusedVariables false
theorem zqvk (x n:Nat) (hn:n ≤ 32) (hx:x < 4294967296):x &&& (4294967296 - 2 ^ n) = (x >>> n) <<< n:=by
 have e:4294967296 - 2 ^ n = (2 ^ (32 - n) - 1) <<< n:=by
  rw [Nat.shiftLeft_eq,Nat.sub_mul,← Nat.pow_add,Nat.sub_add_cancel hn]; simp
 rw [e];apply Nat.eq_of_testBit_eq;intro i;rw [Nat.testBit_and,Nat.testBit_shiftLeft,Nat.testBit_shiftLeft,Nat.testBit_two_pow_sub_one,Nat.testBit_shiftRight]
 by_cases h1:n ≤ i
 ·by_cases h2:i < 32
  ·simp [h1,show i - n < 32 - n by omega,show n + (i - n) = i by omega]
  ·have:x.testBit i = false:=Nat.testBit_lt_two_pow (Nat.lt_of_lt_of_le (show x < 2 ^ 32 by simpa using hx) (Nat.pow_le_pow_right (by decide) (by omega)))
   simp [h1,show n + (i - n) = i by omega,this]
 ·simp [h1]
theorem zqhc {x:Int} {n:Nat} (hn:n ≤ 6) (h0:0 ≤ x) (h1:x ≤ 4294967295):(bits .andNot .u32 x (2 ^ n - 1) != 0) = decide ((2:Int) ^ n ≤ x):=by
 have hf:=zqce hn;rw [u32_andNot x _ h0 (by omega) (by omega) (by omega)]
 have e:4294967295 - ((2:Int) ^ n - 1).toNat = 4294967296 - 2 ^ n:=by
  rcases (by omega:n = 0 ∨ n = 1 ∨ n = 2 ∨ n = 3 ∨ n = 4 ∨ n = 5 ∨ n = 6) with rfl | rfl | rfl | rfl | rfl | rfl | rfl <;> decide
 rw [e,zqvk _ n (by omega) (by omega),Nat.shiftLeft_eq,Nat.shiftRight_eq_div_pow]
 have h2:((2 ^ n:Nat):Int) = 2 ^ n:=by rw [Int.natCast_pow]; rfl
 have hp:0 < 2 ^ n:=Nat.pow_pos (by decide)
 have hx:(x.toNat:Int) = x:=by omega
 rw [← h2];generalize 2 ^ n = p at *
 by_cases h:p ≤ x.toNat
 ·have hd:1 ≤ x.toNat / p:=(Nat.le_div_iff_mul_le hp).2 (by omega)
  have hm:1 ≤ x.toNat / p * p:=Nat.mul_pos hd hp;rw [decide_eq_true (by omega)]
  exact bne_iff_ne.2 (by omega)
 ·have hd:x.toNat / p = 0:=Nat.div_eq_of_lt (by omega)
  rw [hd,decide_eq_false (by omega)]
  simp
theorem zqev {p z:Int} (h0:1 ≤ p) (h1:p ≤ 1099511627776) (h2:1 ≤ z) (h3:z ≤ 4096):1 ≤ p * z ∧ p * z ≤ 4503599627370496:=by
 have a:=Int.mul_le_mul h0 h2 (by omega) (by omega)
 have b:=Int.mul_le_mul h1 h3 (by omega) (by omega)
 constructor <;> omega
set_option maxHeartbeats 2000000 in
theorem zquy (w:World) (v:Value) (ds:List (ByteArray × Int)) (h:Dims w v ds) (hw:∀ d ∈ ds,-9223372036854775808 ≤ d.2 ∧ d.2 ≤ 9223372036854775807) :
  Calls Tryz.prog 92 #[v] w fun e w' => e = .returned (.bool (sizB ds)) ∧ Below w.heap.size w w':=by
 obtain ⟨a,cap,rfl,h1,h2,h3⟩:=h;rcases h3 with rfl | ⟨b,off,rfl,hlt,hc⟩
 ·go_enter Tryz.func92,Tryz.ntmps92;go_wp2;refine wp_loop_rounds 1 ?_;rw [rounds_succ];go_wp2;go_ret;exact ⟨rfl,Below.refl _ _⟩
 ·have HC:=zh hc;have HM:=zh (@zqno ds);have HH:=zh (fun k => @zqpt ds k)
  have HP:=zh (fun k => @zqeu ds k)
  have HW:=zh (fun k (hk:k < ds.length) => show -9223372036854775808 ≤ dz ds k ∧ dz ds k ≤ 9223372036854775807 by rw [zqi0 hk]; exact hw _ (List.getElem_mem hk))
  generalize sizB ds = r at *;clear hc hw;go_enter Tryz.func92,Tryz.ntmps92;go_wp2;go_loopw [3,8] (fun pv i wr => ∃ k:Nat,k ≤ ds.length ∧ i = .int .i64 k ∧ (∃ p:Int,pv = .int .u64 p ∧ 1 ≤ p ∧ p ≤ 1099511627776 ∧ Hid (p = prodL (ds.take k))) ∧ Hid (Below w.heap.size w wr) ∧ Hid (∀ j,j < k → sizAt ds j = true)) (fun _ i _ => ds.length - (intOf i).toNat)
  case atStart => exact ⟨0,Nat.zero_le _,rfl,⟨1,rfl,by decide,by decide,zh rfl⟩,zh (Below.refl _ _),zh (fun j hj => by omega)⟩
  case round =>
   obtain ⟨k,hk,rfl,⟨p,rfl,hp0,hp1,HE⟩,HB,HJ⟩:=hrel
   by_cases hlk:k < ds.length
   ·obtain ⟨c0,c1⟩:=HC.out k hlk;have c0:wr.cell? ⟨b,off + k * 2,none⟩ = _:=(HB.out.cell (p:=⟨b,off + k * 2,none⟩) hlt).trans c0;have c1:wr.cell? ⟨b,off + k * 2 + 1,none⟩ = _:=(HB.out.cell (p:=⟨b,off + k * 2 + 1,none⟩) hlt).trans c1;have HHk:=zh (fun q => HH.out k hlk q)
    have HQ:=zh (fun q:sizAt ds k = true => fun j (hj:j < k + 1) => if e:j = k then (e ▸ q:sizAt ds j = true) else HJ.out j (by omega))
    have HS:=zh (show sizAt ds k = (decide (1 ≤ dz ds k) && decide (dz ds k ≤ 4096) && decide (p * dz ds k ≤ 1099511627776)) by unfold sizAt; rw [HP.out k hlk,← HE.out])
    have HE1:=zh (show p * dz ds k = prodL (ds.take (k + 1)) by rw [HP.out k hlk,← HE.out])
    have hW:=HW.out k hlk;have hBs:=HB.out.size;have HB1:=zh (HB.out.alloc hBs (.cells #[.string (dn ds k),.int .i64 (dz ds k)] 68));generalize dn ds k = x at *;generalize dz ds k = z at *;generalize sizAt ds k = t at *
    by_cases z1:z < 1
    ·have HR:=zh (HHk.out (by rw [HS.out,decide_eq_false (p:=1 ≤ z) (by omega)]; rfl))
     clear hW;go_wp2;go_ret;rw [HR.out];exact ⟨rfl,HB1.out⟩
    ·by_cases z2:4096 < z
     ·have HR:=zh (HHk.out (by rw [HS.out,decide_eq_false (p:=z ≤ 4096) (by omega)]; simp))
      clear hW;go_wp2;go_ret;rw [HR.out];exact ⟨rfl,HB1.out⟩
     ·have hq:=zqev hp0 hp1 (by omega:1 ≤ z) (by omega)
      have i1:IntKind.u64.wrap z = z:=by rw [IntKind.wrap_u64]; omega
      have i2:IntKind.u64.wrap (p * z) = p * z:=by rw [IntKind.wrap_u64]; omega
      by_cases z3:1099511627776 < p * z
      ·have HR:=zh (HHk.out (by rw [HS.out,decide_eq_false (p:=p * z ≤ 1099511627776) (by omega)]; simp))
       clear hW;go_wp2;go_ret;rw [HR.out];exact ⟨rfl,HB1.out⟩
      ·have HQ2:=zh (HQ.out (by rw [HS.out]; simp; omega))
       clear hW;go_wp2;go_roundw
       case rel => exact ⟨k + 1,by omega,by go_num,⟨p * z,rfl,by omega,by omega,HE1⟩,HB1,HQ2⟩
       case measure => simp [intOf]; omega
   ·have:k = ds.length:=by omega
    subst this;have HR:=zh (HM.out HJ.out);clear HE;go_wp2;go_ret;rw [HR.out];exact ⟨rfl,HB.out⟩
set_option maxHeartbeats 2000000 in
theorem zqmd (w:World) (v:Value) (vs:List Int) (n:Nat) (h:Ints .u32 w v vs) (hn:n ≤ 6) (hw:∀ x ∈ vs,0 ≤ x ∧ x ≤ 4294967295) (hl:vs.length ≤ 9223372036854775807) :
  Calls Tryz.prog 93 #[v,.int .u32 (2 ^ n - 1)] w fun e w' => e = .returned (.bool (vieB (2 ^ n - 1) vs)) ∧ w = w':=by
 obtain ⟨a,cap,rfl,h1,h3⟩:=h;rcases h3 with rfl | ⟨b,off,rfl,hlt,hc⟩
 ·go_enter Tryz.func93,Tryz.ntmps93;go_wp2;refine wp_loop_rounds 1 ?_;rw [rounds_succ];go_wp2;go_ret;exact ⟨rfl,rfl⟩
 ·have HC:=zh hc;have HM:=zh (@zqnz (2 ^ n - 1) vs);have HH:=zh (fun k => @zqpx (2 ^ n - 1) vs k)
  have HW:=zh (fun k (hk:k < vs.length) => show 0 ≤ vs.getD k 0 ∧ vs.getD k 0 ≤ 4294967295 by
   have:vs.getD k 0 = vs[k]:=by simp [List.getD,hk]
   rw [this]; exact hw _ (List.getElem_mem hk))
  have HA:=zh (fun x h0 h1 => @zqhc x n hn h0 h1)
  have HF:=zh (zqce hn);have HV:=zh (fun k => show vieAt (2 ^ n - 1) vs k = (decide (vs.getD k 0 < 2 ^ n - 1) && (decide (k = 0) || decide (vs.getD (k - 1) 0 < vs.getD k 0))) from rfl)
  generalize vieB (2 ^ n - 1) vs = r at *;generalize hm:(2:Int) ^ n - 1 = m at *;have hm2:(2:Int) ^ n = m + 1:=by omega
  rw [hm2] at HA;clear hc hw hm hm2 HF;go_enter Tryz.func93,Tryz.ntmps93;go_wp2;go_loopw [9] (fun i wr => ∃ k:Nat,k ≤ vs.length ∧ i = .int .i64 k ∧ w = wr ∧ Hid (∀ j,j < k → vieAt m vs j = true)) (fun i _ => vs.length - (intOf i).toNat)
  case atStart => exact ⟨0,Nat.zero_le _,rfl,rfl,zh (fun j hj => by omega)⟩
  case round =>
   obtain ⟨k,hk,rfl,rfl,HJ⟩:=hrel
   by_cases hlk:k < vs.length
   ·have hx:=HC.out k hlk;have hW:=HW.out k hlk;have hA:=HA.out _ hW.1 hW.2;have HHk:=zh (fun q => HH.out k hlk q)
    have HQ:=zh (fun q:vieAt m vs k = true => fun j (hj:j < k + 1) => if e:j = k then (e ▸ q:vieAt m vs j = true) else HJ.out j (by omega))
    have HVk:=zh (HV.out k);generalize vieAt m vs k = t at *
    by_cases z1:m ≤ vs.getD k 0
    ·have HR:=zh (HHk.out (by rw [HVk.out,decide_eq_false (p:=vs.getD k 0 < m) (by omega)]; rfl))
     generalize vs.getD k 0 = x at *
     by_cases z2:m + 1 ≤ x
     ·rw [decide_eq_true z2] at hA;go_wp2;go_ret;rw [HR.out];exact ⟨rfl,rfl⟩
     ·rw [decide_eq_false z2] at hA;obtain rfl:x = m:=by omega
      go_wp2;go_ret;rw [HR.out];exact ⟨rfl,rfl⟩
    ·rw [decide_eq_false (p:=m + 1 ≤ vs.getD k 0) (by omega)] at hA
     have z4:(vs.getD k 0 == m) = false:=beq_eq_false_iff_ne.2 (by omega)
     by_cases k0:k = 0
     ·subst k0;have HQ2:=zh (HQ.out (by rw [HVk.out,decide_eq_true (p:=vs.getD 0 0 < m) (by omega)]; rfl))
      have hx:w.cell? ⟨b,off,none⟩ = some (.int .u32 (vs.getD 0 0)):=hx;generalize vs.getD 0 0 = x at *;go_wp2;go_roundw
      case rel => exact ⟨0 + 1,by omega,by go_num,by trivial,HQ2⟩
      case measure => simp [intOf]; omega
     ·have hy:=HC.out (k - 1) (by omega)
      have i1:((k:Int) - 1) = ((k - 1:Nat):Int):=by omega
      have i2:(0:Int) < (k:Int):=by omega
      by_cases z3:vs.getD k 0 ≤ vs.getD (k - 1) 0
      ·have HR:=zh (HHk.out (by rw [HVk.out,decide_eq_false k0,decide_eq_false (p:=vs.getD (k - 1) 0 < vs.getD k 0) (by omega)]; simp))
       generalize vs.getD k 0 = x at *;generalize vs.getD (k - 1) 0 = y at *;go_wp2;go_ret;rw [HR.out];exact ⟨rfl,rfl⟩
      ·have HQ2:=zh (HQ.out (by rw [HVk.out,decide_eq_true (p:=vs.getD k 0 < m) (by omega),decide_eq_true (p:=vs.getD (k - 1) 0 < vs.getD k 0) (by omega)]; simp))
       generalize vs.getD k 0 = x at *;generalize vs.getD (k - 1) 0 = y at *;go_wp2;go_roundw
       case rel => exact ⟨k + 1,by omega,by go_num,by trivial,HQ2⟩
       case measure => simp [intOf]; omega
   ·have:k = vs.length:=by omega
    subst this;have HR:=zh (HM.out HJ.out);go_wp2;go_ret;rw [HR.out];exact ⟨rfl,rfl⟩
set_option maxRecDepth 100000
open Go.RowKit
set_option linter.unusedVariables false
def RowsOf {α:Type} (R:World → Value → List α → Prop) (w:World) (v:Value) (L:List (List α)):Prop:=∃ b,v = .slice (some ⟨b,0,none⟩) L.length L.length ∧ b < w.heap.size ∧ ∀ k,k < L.length → ∃ u,w.cell? ⟨b,k,none⟩ = some u ∧ R w u (L.getD k [])
theorem zqsy {α:Type} {L:List (List α)} {k:Nat} (hk:k < L.length):(L.take (k + 1)).flatten = (L.take k).flatten ++ L.getD k []:=by
 rw [List.take_add_one,List.getElem?_eq_getElem hk,List.flatten_append];simp [List.getD,hk]
theorem zqym {α:Type} (L:List (List α)) (k:Nat):(L.take k).flatten.length ≤ L.flatten.length:=by
 conv => rhs; rw [← List.take_append_drop k L,List.flatten_append,List.length_append]
 omega
theorem zqt5 (w:World) (z:Value) (n:Nat) (E:TypeId) (hz:z.cells.size = 1) (hm:n ≤ maxLen) :
  (w.drew.alloc (.cells (Builtin.zeroCells z.cells n ++ Builtin.zeroCells z.cells (grownCap w n 0 E - n)) E)).ownsRow w.heap.size E 1 (.slice (some ⟨w.heap.size,0,none⟩) 0 (grownCap w n 0 E)) 0 []:=by
 have h1:=grownCap_ge w n 0 E;have h2:=grownCap_le_maxLen w n 0 E hm;refine ⟨by simp,.inr ⟨w.heap.size,_,_,rfl,Nat.le_refl _,heap_alloc_new w.drew _,Nat.zero_le _,h2,?_,by simp⟩⟩
 simp only [Array.size_append,size_zeroCells,hz];omega
set_option maxHeartbeats 1000000 in
theorem zqs5 (w:World) (n:Nat) (hn:n ≤ 1000) :
  Calls Tryz.prog 138 #[.slice none 0 0,.int .i64 n] w fun e w' => (∃ v,e = .returned v ∧ SOwn w' w.heap.size v []) ∧ Below w.heap.size w w':=by
 obtain ⟨i0,hi,hz0,hz1,hz2⟩:=info_parts Tryz.infoStr
 by_cases h0:n = 0
 ·subst h0;go_enter Tryz.func138,Tryz.ntmps138;go_wp2;go_ret;exact ⟨⟨_,rfl,by simp,.inl ⟨rfl,rfl⟩⟩,Below.refl _ _⟩
 ·have i1:IntKind.i64.wrap (n:Int) = n:=IntWalk.i64_in _ (by omega)
  have i2:(0:Int) < (n:Int):=by omega
  have happ:=Lib.run_append_nil_zeros (P:=Tryz.prog) w 23 3 23 9 i0 (Value.string ⟨#[]⟩) .i64 .i64 Tryz.underlying23 Tryz.underlying3 hi hz0 n (by omega) (by omega) (by omega) (by rw [hz2]; omega)
  have HO:=zh (zqt5 w (Value.string ⟨#[]⟩) n 9 rfl (by unfold maxLen; omega))
  have hg:=grownCap_ge w n 0 9;generalize grownCap w n 0 9 = cap at *;have HB:=zh (((Below.refl w.heap.size w).drew).alloc (Nat.le_refl _) (.cells (Builtin.zeroCells (Value.string ⟨#[]⟩).cells n ++ Builtin.zeroCells (Value.string ⟨#[]⟩).cells (cap - n)) 9));generalize Builtin.zeroCells (Value.string ⟨#[]⟩).cells n ++ Builtin.zeroCells (Value.string ⟨#[]⟩).cells (cap - n) = Z at *;go_enter Tryz.func138,Tryz.ntmps138;go_wp2_with (at_builtin; refine Lib.wpList_append_run _ rfl _ _ _ _ rfl _ _ rfl rfl _ _ happ ?_);go_ret;exact ⟨⟨_,rfl,HO.out⟩,HB.out⟩
set_option maxHeartbeats 4000000 in
theorem zqoi (w:World) (v:Value) (L:List (List ByteArray)) (h:RowsOf Strs w v L) (hl:L.flatten.length ≤ 1000) (hl2:L.length ≤ 1000) :
  Calls Tryz.prog 88 #[v] w fun e w' => (∃ v,e = .returned v ∧ SOwn w' w.heap.size v L.flatten) ∧ Below w.heap.size w w':=by
 obtain ⟨i0,hi,hz0,hz1,hz2⟩:=info_parts Tryz.infoStr;obtain ⟨b,rfl,hlt,hc⟩:=h;have HC:=zh hc;have HN:=zh (fun k => zqsy (L:=L) (k:=k))
 have HL:=zh (fun k => Nat.le_trans (zqym L k) hl)
 have HE:=zh (show (L.take L.length).flatten = L.flatten by rw [List.take_length])
 have HG:=zh (fun w n hn => zqs5 w n hn)
 clear hc hl;go_enter Tryz.func88,Tryz.ntmps88;go_wp2_with fail;go_loopw [3,11] (fun s i wr => ∃ k:Nat,k ≤ L.length ∧ i = .int .i64 k ∧ w = wr ∧ ∃ m:Nat,s = .int .i64 m ∧ m ≤ 1000 ∧ Hid (m = (L.take k).flatten.length)) (fun _ i _ => L.length - (intOf i).toNat)
 case atStart => exact ⟨0,Nat.zero_le _,rfl,rfl,0,rfl,by omega,zh (by simp)⟩
 case round =>
  obtain ⟨k,hk,rfl,rfl,m,rfl,hm,HM⟩:=hrel
  by_cases hlk:k < L.length
  ·obtain ⟨u,hx,hu⟩:=HC.out k hlk;have hnx:=congrArg List.length (HN.out k hlk);rw [List.length_append,← HM.out] at hnx;have hle:=HL.out (k + 1);have HX:=zh hnx;obtain ⟨ua,uc,rfl,-,-⟩:=hu;generalize hq:(L.getD k []).length = q at *;have i1:IntKind.i64.wrap ((m:Int) + q) = ((m + q:Nat):Int):=by rw [IntWalk.i64_in _ (by omega)]; omega
   have i3:¬ ((m + q:Nat):Int) < 0:=by omega
   clear hnx hq;go_wp2_with fail;go_roundw
   case rel => exact ⟨k + 1,by omega,by go_num,by trivial,m + q,rfl,by have:=HX.out; omega,zh HX.out.symm⟩
   case measure => simp [intOf]; omega
  ·have:k = L.length:=by omega
   subst this;go_wp2_with fail;refine (HG.out _ m hm).mono ?_; rintro e w1 ⟨⟨v1,rfl,hv⟩,hb⟩;have HV:=zh hv;have HB:=zh hb;obtain ⟨pa,pl,pc,rfl⟩:=zqam hv;clear hv hb;go_wp2_with fail;go_loopw [6,27] (fun lv i wr => ∃ k:Nat,k ≤ L.length ∧ i = .int .i64 k ∧ Hid (SOwn wr w.heap.size lv (L.take k).flatten ∧ Below w.heap.size w wr)) (fun _ i _ => L.length - (intOf i).toNat)
   case atStart => exact ⟨0,Nat.zero_le _,rfl,zh ⟨HV.out,HB.out⟩⟩
   case round =>
    obtain ⟨k,hk,rfl,HS⟩:=hrel
    by_cases hlk:k < L.length
    ·obtain ⟨u,hx,hu⟩:=HC.out k hlk;have hx:wr.cell? ⟨b,k,none⟩ = some u:=(HS.out.2.cell (p:=⟨b,k,none⟩) hlt).trans hx;have HU:=zh (hu.below HS.out.2);have HNk:=HN.out k hlk;have HLk:=HL.out (k + 1);rw [HNk,List.length_append] at HLk;have HLk:=zh HLk;have HNk:=zh HNk;generalize (L.take k).flatten = F at *;generalize hq:L.getD k [] = q at *;have hsz:=HS.out.2.size;obtain ⟨ua,uc,rfl,-,-⟩:=hu;obtain ⟨pa,pl,pc,rfl⟩:=zqam HS.out.1;clear hq;go_wp2_with (at_builtin; refine zqbv _ (by rfl) _ _ 23 rfl w.heap.size 9 i0 (Value.string ⟨#[]⟩) 16 Tryz.underlying23 hi hz0 hz1 hz2 rfl  _ _ F q rfl rfl HS.out.1 HU.out (by have:=HLk.out; unfold maxLen; omega) (by have:=HLk.out; omega) hsz ?_; intro v' w1 hown hgrow; have HQ:=zh (And.intro hown (zqcu HS.out.2 hsz HS.out.1 hgrow)); obtain ⟨pv',lv',cv',rfl⟩:=zqam hown; clear hown hgrow)
     go_roundw
     case rel => exact ⟨k + 1,by omega,by go_num,zh ⟨by rw [HNk.out]; exact HQ.out.1,HQ.out.2⟩⟩
     case measure => simp [intOf]; omega
    ·have:k = L.length:=by omega
     subst this;have HS2:=HS.out;rw [HE.out] at HS2;have HS3:=zh HS2;clear HS2;obtain ⟨pa,pl,pc,rfl⟩:=zqam HS3.out.1;go_wp2;go_ret;exact ⟨⟨_,rfl,HS3.out.1⟩,HS3.out.2⟩
set_option maxRecDepth 100000
open Go.RowKit
set_option linter.unusedVariables false
theorem zqla {S:Sc} (h:cntB S = true):S.ds.length ≤ 6 ∧ 1 ≤ S.ds.length ∧ (namesL S).length ≤ 11:=by
 have:=zqcc.1 h;refine ⟨by omega,by omega,?_⟩
 unfold namesL;simp;omega
theorem zqgh {S:Sc} (h:SWf S):∀ s ∈ namesL S,s.size ≤ maxLen:=by
 intro s hs;unfold namesL at hs;rcases List.mem_append.1 hs with hs | hs
 ·rcases List.mem_append.1 hs with hs | hs
  ·obtain ⟨d,hd,rfl⟩:=List.mem_map.1 hs;exact (h.d d hd).1
  ·exact h.i s hs
 ·exact h.n s hs
theorem zqrl {W:World} {A B C:Value} {a b c:List ByteArray} {T:TypeId} {N:Nat} (hN:W.heap.size = N) (hA:Strs W A a) (hB:Strs W B b) (hC:Strs W C c) :
  RowsOf Strs (W.alloc (.cells #[A,B,C] T)) (.slice (some ⟨N,0,none⟩) 3 3) [a,b,c]:=by
 subst hN;have hb:=zqab W (.cells #[A,B,C] T);refine ⟨_,rfl,by simp,fun k hk => ?_⟩
 have hk3:k < 3:=hk;rcases (by omega:k = 0 ∨ k = 1 ∨ k = 2) with rfl | rfl | rfl
 ·exact ⟨A,by simp [go_sem],hA.below hb⟩
 ·exact ⟨B,by simp [go_sem],hB.below hb⟩
 ·exact ⟨C,by simp [go_sem],hC.below hb⟩
theorem zqa9 {w w':World} (hb:Below w.heap.size w w') {p0 p1 p2 p3:Addr} {a0 a1 a2 a3:Value}
  (h:w.cell? p0 = some a0 ∧ w.cell? p1 = some a1 ∧ w.cell? p2 = some a2 ∧ w.cell? p3 = some a3) :
  w'.cell? p0 = some a0 ∧ w'.cell? p1 = some a1 ∧ w'.cell? p2 = some a2 ∧ w'.cell? p3 = some a3 :=
 ⟨zqei hb h.1,zqei hb h.2.1,zqei hb h.2.2.1,zqei hb h.2.2.2⟩
theorem zqjh (S:Sc):[S.ds.map Prod.fst,S.is,S.ns].flatten = namesL S:=by simp [namesL]
set_option maxHeartbeats 4000000 in
theorem zqej (w:World) (D I M V:Value) (S:Sc) (h:Sch4 w D I M V S) (hw:SWf S) :
  Calls Tryz.prog 48 #[SchV D I M V] w fun e w' => e = .returned (.int .i64 (checkL S)) ∧ Below w.heap.size w w':=by
 have HW:=zh hw;have HB0:=zh (zqab w (SchO D I M V));have HX0:=zh (zqau w D I M V);have HS0:=zh (h.below HB0.out);have HN:=zh (fun w1 (hb:Below w.heap.size w w1) => zqoo w1 D I M V S (h.below hb))
 have HE:=zh (show checkL S = if cntB S = false then 3 else if goodN (namesL S) = false then 8 else if 0 ≤ twiceL (namesL S) then 9 else if sizB S.ds = false then 2 else if vieB (fullL S.ds) S.vs = false then 6 else 0 from rfl)
 have HH:=zh h;obtain ⟨⟨a,c,rfl⟩,⟨a2,c2,rfl⟩,⟨a3,c3,rfl⟩,a4,c4,rfl⟩:=h.slices;clear h hw;go_enter Tryz.func48,Tryz.ntmps48;go_wp2_with fail;refine (HN.out _ HB0.out).mono ?_; rintro e w1 ⟨rfl,hb⟩;have HB1:=zh (zqaa HB0.out hb);have hx1:=HX0.out.below hb;obtain ⟨x0,x1,x2,x3⟩:=hx1.reads;have HX1:=zh hx1;clear hb hx1;cases hc:cntB S with
 | false =>
  rw [hc] at HE;go_wp2;go_ret;exact ⟨by rw [HE.out]; rfl,HB1.out⟩
 | true =>
  have hnl:=zqla hc;go_upto_region 3 with fail;have HDn:=zh (fun w' (hb:Below w.heap.size w w') => zqmp w' _ _ _ _ S (HH.out.below hb) (by omega))
  have HCc:=zh (fun w' v h => zqjh S ▸ zqoi w' v [S.ds.map Prod.fst,S.is,S.ns] h (by rw [zqjh]; omega) (by simp))
  have hk:w1.drew.cell? ⟨w.heap.size,0,none⟩ = some (.slice a S.ds.length c) ∧ w1.drew.cell? ⟨w.heap.size,1,none⟩ = some (.slice a2 S.is.length c2) ∧ w1.drew.cell? ⟨w.heap.size,2,none⟩ = some (.slice a3 S.ns.length c3) ∧ w1.drew.cell? ⟨w.heap.size,3,none⟩ = some (.slice a4 S.vs.length c4):=⟨by simp [x0],by simp [x1],by simp [x2],by simp [x3]⟩
  have hBw:Below w.heap.size w w1.drew:=HB1.out.drew;go_region_held3 (fun w' => w'.cell? ⟨w.heap.size,0,none⟩ = some (.slice a S.ds.length c) ∧ w'.cell? ⟨w.heap.size,1,none⟩ = some (.slice a2 S.is.length c2) ∧ w'.cell? ⟨w.heap.size,2,none⟩ = some (.slice a3 S.ns.length c3) ∧ w'.cell? ⟨w.heap.size,3,none⟩ = some (.slice a4 S.vs.length c4)) ((first | (with_reducible exact hk) | exact zqa9 (zqab _ _) hk))
   (first
    | (go_at_call 89; refine (HDn.out _ hBw).mono ?_; rintro r w2 ⟨⟨v2,rfl,hv2⟩,hb2⟩; have HV2:=zh hv2; obtain ⟨pa,pl,pc,rfl⟩:=zqam hv2; have hk:=zqa9 hb2 hk; have hBw:=zqaa hBw hb2; clear hb2)
    | (go_at_call 88; refine (HCc.out _ _ (zqrl rfl (Strs.own HV2.out) (HH.out.i.below hBw) (HH.out.n.below hBw))).mono ?_; rintro r w3 ⟨⟨v3,rfl,hv3⟩,hb3⟩; have HV3:=zh hv3; obtain ⟨pa3,pl3,pc3,rfl⟩:=zqam hv3; have hk:=zqa9 hb3 (zqa9 (zqab _ _) hk); have hBw:=zqaa (zqaa hBw (zqab _ _)) hb3; clear hb3))
  have HS3:=zh (Strs.own HV3.out);have HB3:=zh hBw;obtain ⟨y0,y1,y2,y3⟩:=hk;have HA:=zh (fun w' (hb:Below w.heap.size w w') (hs:Strs w' (.slice pa3 pl3 pc3) (namesL S)) => zqmi _ (namesL S) w' hs (zqgh HW.out))
  have HT:=zh (fun w' (hs:Strs w' (.slice pa3 pl3 pc3) (namesL S)) => zqu5 _ (namesL S) w' hs (by omega) (zqgh HW.out))
  have HZ:=zh (fun w' (hb:Below w.heap.size w w') => zquy w' _ S.ds (HH.out.d.below hb) (fun d hd => (HW.out.d d hd).2))
  have HY:=zh (fun w' (hb:Below w.heap.size w w') => zqmd w' _ S.vs S.ds.length (HH.out.v.below hb) hnl.1 HW.out.v (by have:=zqcc.1 hc; omega))
  have HYe:=zh (show (2:Int) ^ S.ds.length - 1 = fullL S.ds from rfl);rw [HYe.out] at HY;have HBa:=zh (fun w' (hb:Below w.heap.size w w') => zqmj w' _ _ _ _ S (HH.out.below hb) hnl.1)
  clear HV2 HV3 HDn HCc hBw;rw [hc] at HE;generalize goodN (namesL S) = g at *;generalize twiceL (namesL S) = tw at *;generalize sizB S.ds = sz at *;generalize fullL S.ds = fu at *;generalize vieB fu S.vs = vi at *;go_wp2_with fail;refine (HA.out _ HB3.out HS3.out).mono ?_; rintro e w4 ⟨rfl,hb⟩;have HB4:=zh (zqaa HB3.out hb);have HS4:=zh (HS3.out.below hb);obtain ⟨z0,z1,z2,z3⟩:=zqa9 hb ⟨y0,y1,y2,y3⟩;clear y0 y1 y2 y3 hb HS3 HA;cases g with
  | false =>
   go_wp2;go_ret;exact ⟨by rw [HE.out]; rfl,HB4.out⟩
  | true =>
   go_wp2_with fail;refine (HT.out _ HS4.out).mono ?_; rintro e w5 ⟨rfl,hb⟩;have HB5:=zh (zqaa HB4.out hb);obtain ⟨y0,y1,y2,y3⟩:=zqa9 hb ⟨z0,z1,z2,z3⟩;clear z0 z1 z2 z3 hb HS4 HT
   by_cases ht:0 ≤ tw
   ·go_wp2;go_ret;exact ⟨by rw [HE.out,if_neg (by decide),if_neg (by decide),if_pos ht]; rfl,HB5.out⟩
   ·have HE2:=zh (show checkL S = if sz = false then 2 else if vi = false then 6 else 0 by rw [HE.out,if_neg (by decide),if_neg (by decide),if_neg ht])
    go_wp2_with fail;refine (HZ.out _ HB5.out).mono ?_; rintro e w6 ⟨rfl,hb⟩;have HB6:=zh (zqaa HB5.out hb);obtain ⟨z0,z1,z2,z3⟩:=zqa9 hb ⟨y0,y1,y2,y3⟩;clear y0 y1 y2 y3 hb HZ HE;cases sz with
    | false =>
     go_wp2;go_ret;exact ⟨by rw [HE2.out]; rfl,HB6.out⟩
    | true =>
     go_upto_region 10 with fail;have hk:w6.drew.cell? ⟨w.heap.size,0,none⟩ = some (.slice a S.ds.length c) ∧ w6.drew.cell? ⟨w.heap.size,1,none⟩ = some (.slice a2 S.is.length c2) ∧ w6.drew.cell? ⟨w.heap.size,2,none⟩ = some (.slice a3 S.ns.length c3) ∧ w6.drew.cell? ⟨w.heap.size,3,none⟩ = some (.slice a4 S.vs.length c4):=⟨by simp [z0],by simp [z1],by simp [z2],by simp [z3]⟩
     have hBw:Below w.heap.size w w6.drew:=HB6.out.drew;go_region_held3 (fun w' => w'.cell? ⟨w.heap.size,0,none⟩ = some (.slice a S.ds.length c) ∧ w'.cell? ⟨w.heap.size,1,none⟩ = some (.slice a2 S.is.length c2) ∧ w'.cell? ⟨w.heap.size,2,none⟩ = some (.slice a3 S.ns.length c3) ∧ w'.cell? ⟨w.heap.size,3,none⟩ = some (.slice a4 S.vs.length c4)) (with_reducible exact hk)
      (first
       | (go_at_call 61; refine (HBa.out _ hBw).mono ?_; rintro r w7 ⟨rfl,hb2⟩; have hk:=zqa9 hb2 hk; have hBw:=zqaa hBw hb2; clear hb2)
       | (go_at_call 93; refine (HY.out _ hBw).mono ?_; rintro r w8 ⟨rfl,rfl⟩))
     have HB7:=zh hBw;cases vi with
     | false =>
      go_wp2;go_ret;exact ⟨by rw [HE2.out]; rfl,HB7.out⟩
     | true =>
      go_wp2;go_ret;exact ⟨by rw [HE2.out]; rfl,HB7.out⟩
end Go.Proofs.YtmnbljijnbhghaaGreatDoor
