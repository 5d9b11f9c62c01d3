/- Contracts that the law leans on: Keyc Keyd Keye Keyf Aggi. -/
import Derived.Test.YtafmghloohhaeaaGreatDoorPt02
import Derived.Test.YtafmghloohhaeaaGreatDoorPt20
import Derived.Test.YtafmghloohhaeaaGreatDoorPt25
import Derived.Test.YtafmghloohhaeaaGreatDoorPt26
import Derived.Test.YtafmghloohhaeaaGreatDoorPt31
namespace Go.Proofs.YtafmghloohhaeaaGreatDoor
set_option maxRecDepth 100000
open Go.RowKit
set_option linter.unusedVariables false
abbrev IOwn (w:World) (B:Nat) (v:Value) (l:List Int):Prop:=w.ownsRow B 3 1 v l.length (l.map (Value.int .i64))
def codesL (ds:List (ByteArray × Int)) (m q:Int):List Int:=(List.range ds.length).map (codG (dz ds) (bitG m) ds.length q)
theorem zqgd (ds:List (ByteArray × Int)) (m q:Int):(codesL ds m q).length = ds.length:=by simp [codesL]
theorem zqsn (ds:List (ByteArray × Int)) (m q:Int) {k:Nat} (hk:k < ds.length):cz (codesL ds m q) k = codG (dz ds) (bitG m) ds.length q k:=by
 simp [cz,codesL,List.getD,hk]
def IFill (w:World) (g cap:Nat) (out:List Int) (wr:World):Prop:=wr.ownsRow w.heap.size 3 1 (.slice (some ⟨g,0,none⟩) out.length cap) out.length (out.map (Value.int .i64)) ∧ Below w.heap.size w wr ∧ w.heap.size ≤ g ∧ g < wr.heap.size
theorem IFill.set {w wr:World} {g cap:Nat} {out:List Int} (h:IFill w g cap out wr) (j:Nat) (x:Int):IFill w g cap (out.set j x) (wr.setCell ⟨g,j,none⟩ (.int .i64 x)):=by
 refine ⟨?_,h.2.1.setCell h.2.2.1 _,h.2.2.1,by simpa using h.2.2.2⟩
 have:=(World.ownsRow.stored h.1 j (.int .i64 x)).1;simpa [List.map_set] using this
theorem IFill.cells {w wr:World} {g cap:Nat} {out:List Int} (h:IFill w g cap out wr) {j:Nat} (hj:j < out.length):wr.cell? ⟨g,j,none⟩ = some (.int .i64 (out.getD j 0)) ∧ wr.frozen? ⟨g,j,none⟩ = false:=by
 have h1:=h.1.1;rw [List.length_map,Nat.mul_one] at h1;refine ⟨?_,World.ownsRow.frozenAt h.1 j⟩;rw [World.ownsRow.cellAt h.1 j (by omega),List.getElem?_map,List.getElem?_eq_getElem hj,List.getD,List.getElem?_eq_getElem hj]
 rfl
theorem zqqg {w w0:World} {n:Nat} {z:Array Value} (hz:z = #[.int .i64 0]) (hown:w0.ownsRow w.heap.size 3 1 (.slice (some ⟨w.heap.size,0,none⟩) n n) n (madeCells z (n * 1)).toList) (hg:w.grownBy w0 none) :
  IFill w w.heap.size n (List.replicate n 0) w0:=by
 subst hz;have hl:=World.ownsRow.lt hown w.heap.size rfl;refine ⟨?_,(Below.refl _ _).grown hg (Nat.le_refl _) (fun k hk => by cases hk),Nat.le_refl _,hl.2⟩
 rw [toList_madeCells_one] at hown;simpa using hown
def SplitAt (ds:List (ByteArray × Int)) (m q:Int) (k:Nat) (out:List Int) (r:Int):Prop :=
 out.length = ds.length ∧ (∀ j,ds.length ≤ j + k → j < ds.length → out.getD j 0 = codG (dz ds) (bitG m) ds.length q j) ∧ r = q / tailG (dz ds) (bitG m) (ds.length - k) k
theorem SplitAt.start (ds:List (ByteArray × Int)) (m q:Int):SplitAt ds m q 0 (List.replicate ds.length 0) q:=⟨by simp,fun j h1 h2 => by omega,by simp [tailG]⟩
theorem SplitAt.range {ds:List (ByteArray × Int)} {m q:Int} {k:Nat} {out:List Int} {r:Int} (h:SplitAt ds m q k out r) (hz:sizB ds = true) (hk:k ≤ ds.length) (q0:0 ≤ q):0 ≤ r ∧ r ≤ q:=by
 obtain ⟨-,-,rfl⟩:=h;have:=zqg3 (p:=bitG m) (i:=ds.length - k) (fun j hj => zqg0 hz j hj) k (by omega)
 refine ⟨Int.ediv_nonneg q0 (by omega),Int.ediv_le_self _ q0⟩
theorem SplitAt.step {ds:List (ByteArray × Int)} {m q:Int} {k i:Nat} {out:List Int} {r:Int} (h:SplitAt ds m q k out r) (hz:sizB ds = true) (hi:k + 1 + i = ds.length) :
  (bitG m i = true → SplitAt ds m q (k + 1) ((out.set i (-1)).set i (r % dz ds i)) (r / dz ds i)) ∧ (bitG m i = false → SplitAt ds m q (k + 1) (out.set i (-1)) r):=by
 obtain ⟨h1,h2,h3⟩:=h;have e1:ds.length - k = i + 1:=by omega
 have e2:ds.length - (k + 1) = i:=by omega
 have e3:ds.length - i = k + 1:=by omega
 have e4:ds.length - (i + 1) = k:=by omega
 have e5:ds.length - i - 1 = k:=by omega
 have hs:=zqrc (p:=bitG m) (fun j hj => zqg0 hz j hj) q (i:=i) (by omega)
 rw [e3,e4] at hs;rw [e1] at h3;have hcod:codG (dz ds) (bitG m) ds.length q i = if bitG m i = true then r % dz ds i else -1:=by unfold codG; rw [e5,h3]
 have hget:∀ (o:List Int) (c:Int),o.length = ds.length → (∀ j,j ≠ i → o.getD j 0 = out.getD j 0) → o.getD i 0 = codG (dz ds) (bitG m) ds.length q i → ∀ j,ds.length ≤ j + (k + 1) → j < ds.length → o.getD j 0 = codG (dz ds) (bitG m) ds.length q j:=fun o c ho h4 h5 j j1 j2 => by
  by_cases e:j = i
  ·rw [e]; exact h5
  ·rw [h4 j e]; exact h2 j (by omega) j2
 constructor
 ·intro hb;rw [if_pos hb] at hs hcod;refine ⟨by simpa using h1,hget _ 0 (by simpa using h1) (fun j hj => ?_) ?_,?_⟩
  ·simp [List.getD,Ne.symm hj]
  ·rw [hcod]; simp [List.getD,h1,show i < ds.length by omega]
  ·rw [e2,hs,← h3]
 ·intro hb;rw [if_neg (by rw [hb]; decide)] at hs hcod
  refine ⟨by simpa using h1,hget _ 0 (by simpa using h1) (fun j hj => ?_) ?_,?_⟩
  ·simp [List.getD,Ne.symm hj]
  ·rw [hcod]; simp [List.getD,h1,show i < ds.length by omega]
  ·rw [e2,hs,← h3]
theorem SplitAt.done {ds:List (ByteArray × Int)} {m q:Int} {out:List Int} {r:Int} (h:SplitAt ds m q ds.length out r):out = codesL ds m q:=by
 obtain ⟨h1,h2,-⟩:=h;refine List.ext_getElem (by rw [h1,zqgd]) fun j j1 j2 => ?_
 have h3:=h2 j (by omega) (by omega)
 have h4:=zqsn ds m q (k:=j) (by omega)
 rw [List.getD,List.getElem?_eq_getElem j1] at h3;unfold cz at h4;rw [List.getD,List.getElem?_eq_getElem j2] at h4;exact h3.trans h4.symm
def OwnB (B:Nat) (w:World) (l:List Int) (e:Ending) (w':World):Prop:=(∃ v,e = .returned v ∧ IOwn w' B v l) ∧ Below B w w'
set_option maxHeartbeats 4000000 in
theorem zqve (w:World) (D:Value) (ds:List (ByteArray × Int)) (m q:Int) (h:Dims w D ds) (hn:ds.length ≤ 31) (hz:sizB ds = true) (m0:0 ≤ m) (m1:m ≤ 4294967295) (q0:0 ≤ q) (q1:q ≤ 18446744073709551615) :
  Calls Tryz.prog 59 #[D,.int .u32 m,.int .u64 q] w (OwnB w.heap.size w (codesL ds m q)):=by
 obtain ⟨i0,hi,hz0,hz1,hz2⟩:=info_parts Tryz.infoInt;obtain ⟨a,cap,rfl,h1,h2,h3⟩:=h;have HC:=zh h3;have HZ:=zh (fun k (hk:k < ds.length) => zqcy hz hk)
 have HH:=zh (fun w k hk => zqib w m k hk m0 m1)
 have HR:=zh (fun k out r (h:SplitAt ds m q k out r) hk => h.range hz hk q0)
 have HS:=zh (fun k i out r (h:SplitAt ds m q k out r) hi => h.step (i:=i) hz hi)
 have HD:=zh (fun out r (h:SplitAt ds m q ds.length out r) => h.done)
 have H0:=zh (SplitAt.start ds m q);clear h3 hz;go_enter Tryz.func59,Tryz.ntmps59;go_wp2_with (at_make; refine wpList_make_full _ rfl _ _ 53 rfl w.heap.size 3 i0 (.int .i64 0) 1 Tryz.underlying53 hi hz0 hz1 .i64 .i64 _ _ ds.length rfl rfl rfl rfl (by rw [hz2]; omega) (by unfold maxLen; omega) (Nat.le_refl _) ?_; intro w0 hown hgrow)
 have hF:=zh (zqqg rfl hown hgrow);clear hown hgrow;go_wp2_with fail;go_loopw [2,16] (fun rv i wr => ∃ (k:Nat) (out:List Int) (r:Int),k ≤ ds.length ∧ i = .int .i64 k ∧ rv = .int .u64 r ∧ Hid (SplitAt ds m q k out r) ∧ Hid (IFill w w.heap.size ds.length out wr)) (fun _ i _ => ds.length - (intOf i).toNat)
 case atStart => exact ⟨0,_,q,Nat.zero_le _,rfl,rfl,H0,hF⟩
 case round =>
  obtain ⟨k,out,r,hk,rfl,rfl,hR,hS⟩:=hrel;clear hF H0;have hr:=HR.out k out r hR.out hk
  by_cases hlk:k < ds.length
  ·rcases HC.out with h3 | ⟨b,off,rfl,hlt,hcell⟩
   ·rw [h3] at hlk; simp at hlk
   obtain ⟨i,hi2⟩:∃ i,k + 1 + i = ds.length:=⟨ds.length - (k + 1),by omega⟩
   have hlen:=hR.out.1;obtain ⟨f1,f2⟩:=hS.out.cells (j:=i) (by omega)
   have hST:=zh (HS.out k i out r hR.out hi2);have hB1:=hS.out.set i (-1);obtain ⟨f3,f4⟩:=hB1.cells (j:=i) (by simp; omega)
   have hB2:=zh (fun x => hB1.set i x)
   have hB1:=zh hB1;obtain ⟨c0,c1⟩:=hcell i (by omega)
   have c1:(wr.setCell ⟨w.heap.size,i,none⟩ (.int .i64 (-1))).cell? ⟨b,off + i * 2 + 1,none⟩ = _:=(hB1.out.2.1.cell (p:=⟨b,off + i * 2 + 1,none⟩) hlt).trans c1;have hz:=HZ.out i (by omega)
   have HHk:=zh (fun w => HH.out w i (by omega))
   have ei:(ds.length:Int) - 1 - (k:Int) = (i:Int):=by omega
   clear hcell c0 hR hS hlen;generalize dz ds i = z at *
   by_cases hbit:bitG m i = true
   ·have hST2:=zh (hST.out.1 hbit);rw [hbit] at HHk;have i1:IntKind.u64.wrap z = z:=by rw [IntKind.wrap_u64]; omega
    have i2:r.tmod z = r % z:=Int.tmod_eq_emod_of_nonneg hr.1;have i3:r.tdiv z = r / z:=Int.tdiv_eq_ediv_of_nonneg hr.1;have hm:=Int.emod_lt_of_pos r (show 0 < z by omega)
    have hm0:=Int.emod_nonneg r (show z ≠ 0 by omega)
    have hd0:0 ≤ r / z:=Int.ediv_nonneg hr.1 (by omega)
    have hd1:r / z ≤ r:=Int.ediv_le_self _ hr.1;generalize r % z = y at *;generalize r / z = r2 at *;have i4:IntKind.u64.wrap r2 = r2:=by rw [IntKind.wrap_u64]; omega
    clear hbit hST;go_wp2_with fail;refine (HHk.out _).mono ?_; rintro e w1 ⟨rfl,rfl⟩;go_wp2_with fail;go_roundw
    case rel => exact ⟨k + 1,_,_,by omega,by go_num,rfl,hST2,zh (hB2.out _)⟩
    case measure => simp [intOf]; omega
   ·have hST2:=zh (hST.out.2 (eq_false_of_ne_true hbit));rw [eq_false_of_ne_true hbit] at HHk;clear hbit hST c1 hz;go_wp2_with fail;refine (HHk.out _).mono ?_; rintro e w1 ⟨rfl,rfl⟩;go_wp2_with fail;go_roundw
    case rel => exact ⟨k + 1,_,_,by omega,by go_num,rfl,hST2,hB1⟩
    case measure => simp [intOf]; omega
  ·have:k = ds.length:=by omega
   subst this;have hE:=HD.out out r hR.out;subst hE;have hW:=zh hS.out;clear hR hS;go_wp2_with fail;go_ret;refine ⟨⟨_,rfl,?_⟩,hW.out.2.1⟩;have:=hW.out.1;rw [zqgd] at this;rw [IOwn,zqgd];exact this
def codE (S:Sc) (m q:Int):Nat:=if numE S m = 0 then if keysL S.ds m S.ds.length ≤ q then 2 else 0 else numE S m
def CodesR (B:Nat) (w:World) (S:Sc) (m q:Int) (e:Ending) (w':World):Prop :=
 (∃ v,e = .returned (.tuple #[v,.int .i64 (codE S m q)]) ∧ IOwn w' B v (if codE S m q = 0 then codesL S.ds m q else [])) ∧ Below B w w'
theorem zqtk {w:World} {B B':Nat} {v:Value} {l:List Int} (h:IOwn w B v l) (hb:B' ≤ B):IOwn w B' v l:=by
 refine ⟨h.1,?_⟩;rcases h.2 with h0 | ⟨g,cap,cur,h1,h2,h3⟩
 ·exact .inl h0
 ·exact .inr ⟨g,cap,cur,h1,Nat.le_trans hb h2,h3⟩
theorem iown0 (w:World) (B:Nat):IOwn w B (.slice none 0 0) []:=⟨by simp,.inl ⟨rfl,rfl⟩⟩
theorem zqgy {S:Sc} (h:checkL S = 0):S.ds.length ≤ 6 ∧ sizB S.ds = true:=⟨(zqcf.1 (zqgc h).1).2.1,(zqgc h).2.1⟩
set_option maxHeartbeats 4000000 in
theorem zqsm (w:World) (D I M V:Value) (S:Sc) (m q:Int) (h:Sch4 w D I M V S) (hw:SWf S) (m0:0 ≤ m) (m1:m ≤ 4294967295) (q0:0 ≤ q) (q1:q ≤ 18446744073709551615) :
  Calls Tryz.prog 27 #[SchV D I M V,.int .u32 m,.int .u64 q] w (CodesR w.heap.size w S m q):=by
 have HB0:=zh (zqab w (SchO D I M V));have HX:=zh (zqa7 w D I M V);have HN:=zh (fun w1 (hb:Below w.heap.size w w1) => zqhm w1 D I M V S m (h.below hb) hw m0 m1)
 by_cases hn:numE S m = 0
 ·rw [hn,if_pos rfl] at HN;have hy:=zqgy (zqj3 hn).1;have HS:=zh (fun w1 (hb:Below w.heap.size w w1) => zqve w1 D S.ds m q (h.below hb).d (by omega) hy.2 m0 m1 q0 q1)
  obtain ⟨⟨a,c,rfl⟩,⟨a2,c2,rfl⟩,⟨a3,c3,rfl⟩,a4,c4,rfl⟩:=h.slices;unfold CodesR
  by_cases hq:keysL S.ds m S.ds.length ≤ q
  ·have hE:codE S m q = 2:=by unfold codE; rw [if_pos hn,if_pos hq]
   rw [hE,if_neg (by decide)]
   generalize keysL S.ds m S.ds.length = ky at *;clear hn hE h hw hy HS;go_enter Tryz.func27,Tryz.ntmps27;go_wp2_with fail;refine (HN.out _ HB0.out).mono ?_; rintro e w1 ⟨rfl,hb⟩;have HB1:=zh (zqaa HB0.out hb);clear hb;go_wp2_with fail;exact bodyPost_ret (v:=.tuple #[.slice none 0 0,.int .i64 2]) (by simp [results,Tryz.results27,go_sem]) rfl ⟨⟨_,rfl,iown0 _ _⟩,HB1.out⟩
  ·have hE:codE S m q = 0:=by unfold codE; rw [if_pos hn,if_neg hq]
   rw [hE,if_pos rfl];generalize keysL S.ds m S.ds.length = ky at *;generalize codesL S.ds m q = l at *;clear hn hE h hw hy;go_enter Tryz.func27,Tryz.ntmps27;go_wp2_with fail;refine (HN.out _ HB0.out).mono ?_; rintro e w1 ⟨rfl,hb⟩;have HB1:=zh (zqaa HB0.out hb);obtain ⟨x0,x1,x2,x3⟩:=(HX.out.below hb).reads;clear hb;go_wp2_with fail;refine (HS.out _ HB1.out).mono ?_; rintro e w2 ⟨⟨v,rfl,hv⟩,hb⟩;have HB2:=zh (zqaa HB1.out hb);have HV:=zh (zqtk hv HB1.out.size);obtain ⟨pa,pl,pc,rfl⟩:=zqac hv;clear hb hv;go_wp2_with fail;exact bodyPost_ret (v:=.tuple #[.slice pa pl pc,.int .i64 0]) (by simp [results,Tryz.results27,go_sem]) rfl ⟨⟨_,rfl,HV.out⟩,HB2.out⟩
 ·obtain ⟨⟨a,c,rfl⟩,⟨a2,c2,rfl⟩,⟨a3,c3,rfl⟩,a4,c4,rfl⟩:=h.slices;have hE:codE S m q = numE S m:=by unfold codE; rw [if_neg hn]
  unfold CodesR;rw [hE,if_neg hn];rw [if_neg hn] at HN;have hz:((numE S m:Int) != 0) = true:=by simp; omega
  generalize (numE S m:Int) = ne at *;clear hn hE h hw;go_enter Tryz.func27,Tryz.ntmps27;go_wp2_with fail;refine (HN.out _ HB0.out).mono ?_; rintro e w1 ⟨rfl,hb⟩;have HB1:=zh (zqaa HB0.out hb);clear hb;go_wp2_with fail;exact bodyPost_ret (v:=.tuple #[.slice none 0 0,.int .i64 ne]) (by simp [results,Tryz.results27,go_sem]) rfl ⟨⟨_,rfl,iown0 _ _⟩,HB1.out⟩
def rngAt (ds:List (ByteArray × Int)) (m:Int) (l:List Int) (k:Nat):Bool:=!bitG m k || (decide (0 ≤ cz l k) && decide (cz l k < dz ds k))
def rngB (ds:List (ByteArray × Int)) (m:Int) (l:List Int):Bool:=(List.range ds.length).all (rngAt ds m l)
theorem zqu3 {ds:List (ByteArray × Int)} {m:Int} {l:List Int} (h:∀ k,k < ds.length → rngAt ds m l k = true):InG (dz ds) (cz l) (bitG m) ds.length:=fun k hk hp => by
 have:=h k hk;unfold rngAt at this;rw [hp] at this;simpa using this
theorem zqyl {ds:List (ByteArray × Int)} {m:Int} {l:List Int} (h:∀ k,k < ds.length → rngAt ds m l k = true):rngB ds m l = true:=List.all_eq_true.2 fun x hx => h x (by simpa using hx)
theorem zq0f {ds:List (ByteArray × Int)} {m:Int} {l:List Int} {k:Nat} (hk:k < ds.length) (h:rngAt ds m l k = false):rngB ds m l = false:=List.all_eq_false.2 ⟨k,by simpa using hk,by simp [h]⟩
theorem zq0g {ds:List (ByteArray × Int)} {m:Int} {l:List Int} (h:rngB ds m l = true):∀ k,k < ds.length → rngAt ds m l k = true:=fun k hk => List.all_eq_true.1 h k (by simpa using hk)
def ofE (S:Sc) (m:Int) (l:List Int):Nat:=if numE S m = 0 then if l.length = S.ds.length then if rngB S.ds m l = true then 0 else 2 else 3 else numE S m
def ofL (S:Sc) (m:Int) (l:List Int):Int:=if ofE S m l = 0 then keyG (dz S.ds) (cz l) (bitG m) S.ds.length else 0
theorem zq1l {S:Sc} {m:Int} {l:List Int} (h:ofE S m l = 0):numE S m = 0 ∧ l.length = S.ds.length ∧ InG (dz S.ds) (cz l) (bitG m) S.ds.length:=by
 unfold ofE at h
 split at h
 ·rename_i h1
  split at h
  ·rename_i h2
   split at h
   ·rename_i h3; exact ⟨h1,h2,zqu3 (zq0g h3)⟩
   ·cases h
  ·cases h
 ·rename_i h1; exact absurd h h1
set_option maxHeartbeats 8000000 in
theorem zqz0 (w:World) (D I M V u:Value) (S:Sc) (m:Int) (l:List Int) (h:Sch4 w D I M V S) (hw:SWf S) (hu:Ints .i64 w u l) (m0:0 ≤ m) (m1:m ≤ 4294967295) :
  Calls Tryz.prog 41 #[SchV D I M V,.int .u32 m,u] w fun e w' => e = .returned (.tuple #[.int .u64 (ofL S m l),.int .i64 (ofE S m l)]) ∧ Below w.heap.size w w':=by
 have HB0:=zh (zqab w (SchO D I M V));have HX:=zh (zqa7 w D I M V);have HN:=zh (fun w1 (hb:Below w.heap.size w w1) => zqhm w1 D I M V S m (h.below hb) hw m0 m1)
 obtain ⟨pu,cu,rfl,hcu,-⟩:=id hu;have HU:=zh hu
 by_cases hn:numE S m = 0
 ·rw [hn,if_pos rfl] at HN;have hy:=zqgy (zqj3 hn).1;have HH:=zh (fun w k hk => zqib w m k hk m0 m1)
  have hd:=h.d;have HD:=zh h.d;obtain ⟨⟨p,c,rfl⟩,⟨p2,c2,rfl⟩,⟨p3,c3,rfl⟩,p4,c4,rfl⟩:=h.slices
  by_cases hl:l.length = S.ds.length
  ·have HJ:=zh (fun w1 (hb:Below w.heap.size w w1) (hc:InG (dz S.ds) (cz l) (bitG m) S.ds.length) => zqto w1 _ _ S.ds m l (HD.out.below hb) (hu.below hb) (by omega) hl hy.2 hc m0 m1)
   have HE2:=zh (fun (q:rngB S.ds m l = false) => show ofE S m l = 2 ∧ ofL S m l = 0 by
    have hE:ofE S m l = 2:=by unfold ofE; rw [if_pos hn,if_pos hl,q]; rfl
    exact ⟨hE,by unfold ofL; rw [hE]; rfl⟩)
   have HE0:=zh (fun (q:rngB S.ds m l = true) => show ofE S m l = 0 ∧ ofL S m l = keyG (dz S.ds) (cz l) (bitG m) S.ds.length by
    have hE:ofE S m l = 0:=by unfold ofE; rw [if_pos hn,if_pos hl,if_pos q]
    exact ⟨hE,by unfold ofL; rw [if_pos hE]⟩)
   obtain ⟨a',cap',e',h1,h2,h3⟩:=hd;obtain ⟨rfl,rfl⟩:p = a' ∧ c = cap':=by injection e' with e1 e2 e3; exact ⟨e1,e3⟩
   have HC:=zh h3;have HG:=zh (@zqyl S.ds m l);have HI:=zh (@zqu3 S.ds m l);have HBd:=zh (fun k => @zq0f S.ds m l k)
   have HAt:=zh (fun k => show rngAt S.ds m l k = (!bitG m k || (decide (0 ≤ cz l k) && decide (cz l k < dz S.ds k))) from rfl)
   rw [hl] at HJ;rw [hl] at HU;rw [hl] at hcu;rw [hl];generalize keysL S.ds m S.ds.length = ky at *;generalize keyG (dz S.ds) (cz l) (bitG m) S.ds.length = ans at *;generalize ofE S m l = oe at *;generalize ofL S m l = ol at *;generalize rngB S.ds m l = rb at *;have hn6:=hy.1;clear hn h hw e' h3 hy hu;go_enter Tryz.func41,Tryz.ntmps41;go_wp2_with fail;refine (HN.out _ HB0.out).mono ?_; rintro e w1 ⟨rfl,hb⟩;have HB1:=zh (zqaa HB0.out hb);have HX1:=zh (HX.out.below hb);obtain ⟨x0,x1,x2,x3⟩:=(HX.out.below hb).reads;clear hb;go_wp2_with fail;go_loopw [30] (fun i wr => ∃ k:Nat,k ≤ S.ds.length ∧ i = .int .i64 k ∧ Hid (Below w.heap.size w wr ∧ Box wr w.heap.size (.slice p S.ds.length c) (.slice p2 S.is.length c2) (.slice p3 S.ns.length c3) (.slice p4 S.vs.length c4)) ∧ Hid (∀ j,j < k → rngAt S.ds m l j = true)) (fun i _ => S.ds.length - (intOf i).toNat)
   case atStart => exact ⟨0,Nat.zero_le _,rfl,zh ⟨HB1.out,HX1.out⟩,zh (fun j hj => by omega)⟩
   case round =>
    obtain ⟨k,hk,rfl,HB,HJk⟩:=hrel;clear x0 x1 x2 x3
    by_cases hlk:k < S.ds.length
    ·rcases HC.out with h3 | ⟨b,off,rfl,hlt,hcell⟩
     ·rw [h3] at hlk; simp at hlk
     obtain ⟨c0,c1⟩:=hcell k hlk;have c0:wr.cell? ⟨b,off + k * 2,none⟩ = _:=(HB.out.1.cell (p:=⟨b,off + k * 2,none⟩) hlt).trans c0;have c1:wr.cell? ⟨b,off + k * 2 + 1,none⟩ = _:=(HB.out.1.cell (p:=⟨b,off + k * 2 + 1,none⟩) hlt).trans c1;obtain ⟨b2,o2,hp2,hb2,hc2⟩:=HU.out.cell (i:=k) (by omega)
     subst hp2;have hc2:=cell_later HB.out.1 hc2;have hc3:wr.cell? ⟨b2,o2 + k,none⟩ = some (.int .i64 (cz l k)):=hc2;have HHk:=zh (fun w => (HH.out w k (by omega)).mono fun _ _ h => And.intro h.1 h.2.symm)
     have HAk:=HAt.out k;have HBk:=zh (fun q => HBd.out k hlk q)
     have HNx:=zh (fun q:rngAt S.ds m l k = true => fun j (hj:j < k + 1) => if e:j = k then (e ▸ q:rngAt S.ds m l j = true) else HJk.out j (by omega))
     have hB1:=zqab wr (.cells #[.string (dn S.ds k),.int .i64 (dz S.ds k)] 50);have hc4:=cell_later hB1 hc3;have HB1k:=zh (And.intro (HB.out.1.alloc HB.out.1.size (.cells #[.string (dn S.ds k),.int .i64 (dz S.ds k)] 50)) (HB.out.2.below hB1));have hle:Hid (k + 1 ≤ S.ds.length):=zh (by omega)
     have hwr:=HB.out.1.size;clear hc2 hB1 hcell;generalize dn S.ds k = x at *;generalize dz S.ds k = z at *;generalize cz l k = y at *;generalize rngAt S.ds m l k = t at *;generalize bitG m k = bt at *;cases bt with
     | false =>
      have HNy:=zh (HNx.out (by rw [HAk]; rfl))
      clear HNx HBk HAk hc3 hc4;go_upto_region 9 with fail;go_quiet ((go_at_call 82; exact Calls.quiet_of_same (HHk.out _)));have HB2:=zh (And.intro (below_drewN HB1k.out.1 nq) (show Box ((wr.alloc (.cells #[.string x,.int .i64 z] 50)).drewN nq) w.heap.size _ _ _ _ from HB1k.out.2));go_wp2;go_roundw
      case rel => exact ⟨k + 1,hle.out,by go_num,HB2,HNy⟩
      case measure => simp [intOf]; omega
     | true =>
      by_cases hy0:y < 0
      ·have hR:=HE2.out (HBk.out (by rw [HAk,decide_eq_false (p:=0 ≤ y) (by omega)]; rfl))
       obtain ⟨rfl,rfl⟩:=hR;clear HNx HBk HAk;go_upto_region 9 with fail;go_quiet ((go_at_call 82; exact Calls.quiet_of_same (HHk.out _)));have HB2:=zh (below_drewN HB1k.out.1 nq);go_wp2;exact bodyPost_ret (v:=.tuple #[.int .u64 0,.int .i64 2]) (by simp [results,Tryz.results41,go_sem]) rfl ⟨rfl,HB2.out⟩
      ·by_cases hyz:z ≤ y
       ·have hR:=HE2.out (HBk.out (by rw [HAk,decide_eq_false (p:=y < z) (by omega)]; simp))
        obtain ⟨rfl,rfl⟩:=hR;clear HNx HBk HAk;go_upto_region 9 with fail;go_quiet ((go_at_call 82; exact Calls.quiet_of_same (HHk.out _)));have HB2:=zh (below_drewN HB1k.out.1 nq);go_wp2;exact bodyPost_ret (v:=.tuple #[.int .u64 0,.int .i64 2]) (by simp [results,Tryz.results41,go_sem]) rfl ⟨rfl,HB2.out⟩
       ·have HNy:=zh (HNx.out (by rw [HAk]; simp; omega))
        clear HNx HBk HAk;go_upto_region 9 with fail;go_quiet ((go_at_call 82; exact Calls.quiet_of_same (HHk.out _)));have HB2:=zh (And.intro (below_drewN HB1k.out.1 nq) (show Box ((wr.alloc (.cells #[.string x,.int .i64 z] 50)).drewN nq) w.heap.size _ _ _ _ from HB1k.out.2));go_wp2;go_roundw
        case rel => exact ⟨k + 1,hle.out,by go_num,HB2,HNy⟩
        case measure => simp [intOf]; omega
    ·have:k = S.ds.length:=by omega
     subst this;have hR:=HE0.out (HG.out HJk.out);obtain ⟨rfl,rfl⟩:=hR;have HQ:=zh (fun w1 hb => HJ.out w1 hb (HI.out HJk.out))
     obtain ⟨y0,y1,y2,y3⟩:=HB.out.2.reads;go_wp2_with fail;refine (HQ.out _ HB.out.1).mono ?_; rintro e w2 ⟨rfl,hb⟩;have HB2:=zh (zqaa HB.out.1 hb);clear hb;go_wp2_with fail;exact bodyPost_ret (v:=.tuple #[.int .u64 ol,.int .i64 0]) (by simp [results,Tryz.results41,go_sem]) rfl ⟨rfl,HB2.out⟩
  ·have hE:ofE S m l = 3:=by unfold ofE; rw [if_pos hn,if_neg hl]
   have hL:ofL S m l = 0:=by unfold ofL; rw [hE]; rfl
   rw [hE,hL];have hne:((l.length:Int) != (S.ds.length:Int)) = true:=by simp; omega
   generalize keysL S.ds m S.ds.length = ky at *;clear hn hE h hw hy HH hL hl hd HD;go_enter Tryz.func41,Tryz.ntmps41;go_wp2_with fail;refine (HN.out _ HB0.out).mono ?_; rintro e w1 ⟨rfl,hb⟩;have HB1:=zh (zqaa HB0.out hb);obtain ⟨x0,x1,x2,x3⟩:=(HX.out.below hb).reads;clear hb;go_wp2_with fail;exact bodyPost_ret (v:=.tuple #[.int .u64 0,.int .i64 3]) (by simp [results,Tryz.results41,go_sem]) rfl ⟨rfl,HB1.out⟩
 ·obtain ⟨⟨p,c,rfl⟩,⟨p2,c2,rfl⟩,⟨p3,c3,rfl⟩,p4,c4,rfl⟩:=h.slices;have hE:ofE S m l = numE S m:=by unfold ofE; rw [if_neg hn]
  have hL:ofL S m l = 0:=by unfold ofL; rw [hE,if_neg hn]
  rw [hE,hL];rw [if_neg hn] at HN;have hz:((numE S m:Int) != 0) = true:=by simp; omega
  generalize (numE S m:Int) = ne at *;clear hn hE h hw hL;go_enter Tryz.func41,Tryz.ntmps41;go_wp2_with fail;refine (HN.out _ HB0.out).mono ?_; rintro e w1 ⟨rfl,hb⟩;have HB1:=zh (zqaa HB0.out hb);clear hb;go_wp2_with fail;exact bodyPost_ret (v:=.tuple #[.int .u64 0,.int .i64 ne]) (by simp [results,Tryz.results41,go_sem]) rfl ⟨rfl,HB1.out⟩
end Go.Proofs.YtafmghloohhaeaaGreatDoor
namespace Go.Proofs.YtafmghloohhaeaaGreatDoor
set_option maxRecDepth 100000
open Go.ChangeShapes Go.WideShapes Go.ChangeAt Go.RowKit Go.Deep
set_option linter.unusedVariables false
section
variable {H : Type} {enc : TypeId × Value → H} {w : World} {base : Nat} {spare : Nat → Bool} {held : Bool}
def RowWh (w:World) (z:Wh) (cs:List Value):Prop:=∃ q,cs = [.int .i64 z.sum,.int .i64 z.abs,q,.int .i64 z.mn,.int .i64 z.mx] ∧ Ints .u32 w q z.sq ∧ WhW z
def RowRe (w:World) (z:Re) (cs:List Value):Prop:=∃ q,cs = [q,.float .f64 z.mn,.float .f64 z.mx] ∧ Ints .u8 w q z.sum ∧ ReW z
theorem wf_i64 {x:Int} (h:(Lit.int .i64 x).wf = true):I64 x:=by
 simp [Lit.wf,IntKind.min,IntKind.max,IntKind.signed,IntKind.bits] at h;unfold I64; omega
theorem zqra {fuel:Nat} {cs:List Value} {x:DataW H × List MemPlace} {T E:TypeId} {g0 g1 g2 g3 g4:Field}
  (hT:Tryz.prog.underlying T = some (.struct #[g0,g1,g2,g3,g4])) (hc:Tryz.prog.cellsOf T = 5) (o0:g0.offset = 0) (o1:g1.offset = 1) (o2:g2.offset = 2) (o3:g3.offset = 3) (o4:g4.offset = 4)
  (h0:Tryz.prog.underlying g0.type = some (.int .i64)) (h1:Tryz.prog.underlying g1.type = some (.int .i64)) (h2:Tryz.prog.underlying g2.type = some (.slice E)) (h3:Tryz.prog.underlying g3.type = some (.int .i64)) (h4:Tryz.prog.underlying g4.type = some (.int .i64))
  (c0':Tryz.prog.cellsOf g0.type = 1) (c1':Tryz.prog.cellsOf g1.type = 1) (c2':Tryz.prog.cellsOf g2.type = 1) (c3':Tryz.prog.cellsOf g3.type = 1) (c4':Tryz.prog.cellsOf g4.type = 1)
  (e2:Tryz.prog.underlying E = some (.int .u32)) (d2:Tryz.prog.cellsOf E = 1)
  (h:DataW.trod enc Tryz.prog w base spare held fuel T cs = some x):∃ z,RowWh w z cs ∧ cs.length = 5:=by
 obtain ⟨xs,n,-,hx,hlen,hxl,hf⟩:=DataW.trod_struct hT h;rw [hc] at hlen
 match cs,hlen with
 | [c0,c1,c2,c3,c4],_ =>
  match xs,hxl with
  | [y0,y1,y2,y3,y4],_ =>
   have q0:=hf 0 g0 rfl;have q1:=hf 1 g1 rfl;have q2:=hf 2 g2 rfl;have q3:=hf 3 g3 rfl;have q4:=hf 4 g4 rfl;rw [o0,c0'] at q0;rw [o1,c1'] at q1;rw [o2,c2'] at q2;rw [o3,c3'] at q3;rw [o4,c4'] at q4;obtain ⟨a0,k0,-,w0⟩:=DataW.trod_int h0 q0;obtain ⟨a1,k1,-,w1⟩:=DataW.trod_int h1 q1;obtain ⟨a3,k3,-,w3⟩:=DataW.trod_int h3 q3;obtain ⟨a4,k4,-,w4⟩:=DataW.trod_int h4 q4;obtain ⟨l,hl,hw,hm⟩:=zqmm (v:=c2) h2 e2 d2 q2;obtain rfl:c0 = .int .i64 a0:=by simpa using k0
   obtain rfl:c1 = .int .i64 a1:=by simpa using k1
   obtain rfl:c3 = .int .i64 a3:=by simpa using k3
   obtain rfl:c4 = .int .i64 a4:=by simpa using k4
   exact ⟨⟨a0,a1,l,a3,a4⟩,⟨c2,rfl,hl,⟨wf_i64 w0,wf_i64 w1,fun z hz => by have:=hw z hz; simp [Lit.wf,IntKind.min,IntKind.max,IntKind.signed,IntKind.bits] at this; omega,hm,wf_i64 w3,wf_i64 w4⟩⟩,rfl⟩
theorem zqus {fuel:Nat} {cs:List Value} {x:DataW H × List MemPlace} {T E:TypeId} {g0 g1 g2:Field}
  (hT:Tryz.prog.underlying T = some (.struct #[g0,g1,g2])) (hc:Tryz.prog.cellsOf T = 3) (o0:g0.offset = 0) (o1:g1.offset = 1) (o2:g2.offset = 2)
  (h0:Tryz.prog.underlying g0.type = some (.slice E)) (h1:Tryz.prog.underlying g1.type = some (.float .f64)) (h2:Tryz.prog.underlying g2.type = some (.float .f64))
  (c0':Tryz.prog.cellsOf g0.type = 1) (c1':Tryz.prog.cellsOf g1.type = 1) (c2':Tryz.prog.cellsOf g2.type = 1)
  (e0:Tryz.prog.underlying E = some (.int .u8)) (d0:Tryz.prog.cellsOf E = 1)
  (h:DataW.trod enc Tryz.prog w base spare held fuel T cs = some x):∃ z,RowRe w z cs ∧ cs.length = 3:=by
 obtain ⟨xs,n,-,hx,hlen,hxl,hf⟩:=DataW.trod_struct hT h;rw [hc] at hlen
 match cs,hlen with
 | [c0,c1,c2],_ =>
  match xs,hxl with
  | [y0,y1,y2],_ =>
   have q0:=hf 0 g0 rfl;have q1:=hf 1 g1 rfl;have q2:=hf 2 g2 rfl;rw [o0,c0'] at q0;rw [o1,c1'] at q1;rw [o2,c2'] at q2;obtain ⟨l,hl,hw,hm⟩:=zqmm (v:=c0) h0 e0 d0 q0;obtain ⟨a1,k1,w1⟩:=zqnf h1 q1;obtain ⟨a2,k2,w2⟩:=zqnf h2 q2;obtain rfl:c1 = .float .f64 a1:=by simpa using k1
   obtain rfl:c2 = .float .f64 a2:=by simpa using k2
   exact ⟨⟨l,a1,a2⟩,⟨c0,rfl,hl,⟨fun z hz => by have:=hw z hz; simp [Lit.wf,IntKind.min,IntKind.max,IntKind.signed,IntKind.bits] at this; omega,hm,by simpa [Lit.wf,W64] using w1,by simpa [Lit.wf,W64] using w2⟩⟩,rfl⟩
theorem zqvp {fuel:Nat} {v:Value} {x:DataW H × List MemPlace} (h:DataW.trod enc Tryz.prog w base spare held fuel 29 [v] = some x):∃ l,Wholes w v l ∧ ∀ z ∈ l,WhW z:=by
 obtain ⟨l,a,cap,rfl,h1,h2,h3,h4⟩:=zqm1 (n:=5) (RowWh w) wh0 (by decide) Tryz.underlying29 (by kernel_rfl)
  (fun h => zqra Tryz.underlying45 (by kernel_rfl) rfl rfl rfl rfl rfl Tryz.underlying2 Tryz.underlying2 Tryz.underlying24 Tryz.underlying2 Tryz.underlying2 (by kernel_rfl) (by kernel_rfl) (by kernel_rfl) (by kernel_rfl) (by kernel_rfl) Tryz.underlying27 (by kernel_rfl) h) h
 refine ⟨l,⟨a,cap,rfl,h1,h2,h4.imp id ?_⟩,fun z hz => ?_⟩
 ·rintro ⟨b,off,rfl,hlt,hc⟩;refine ⟨b,off,rfl,hlt,fun i hi => ?_⟩
  obtain ⟨cs,⟨q,rfl,hq,-⟩,hcell⟩:=hc i hi;rw [zqa5 hi];exact ⟨q,by simpa using hcell 0 (by decide),by simpa using hcell 1 (by decide),by simpa using hcell 2 (by decide),by simpa using hcell 3 (by decide),by simpa using hcell 4 (by decide),hq⟩
 ·obtain ⟨cs,q,-,-,hw⟩:=h3 z hz;exact hw
theorem zqyi {fuel:Nat} {v:Value} {x:DataW H × List MemPlace} (h:DataW.trod enc Tryz.prog w base spare held fuel 30 [v] = some x):∃ l,Reals w v l ∧ ∀ z ∈ l,ReW z:=by
 obtain ⟨l,a,cap,rfl,h1,h2,h3,h4⟩:=zqm1 (n:=3) (RowRe w) re0 (by decide) Tryz.underlying30 (by kernel_rfl)
  (fun h => zqus Tryz.underlying48 (by kernel_rfl) rfl rfl rfl Tryz.underlying36 Tryz.underlying46 Tryz.underlying46 (by kernel_rfl) (by kernel_rfl) (by kernel_rfl) Tryz.underlying5 (by kernel_rfl) h) h
 refine ⟨l,⟨a,cap,rfl,h1,h2,h4.imp id ?_⟩,fun z hz => ?_⟩
 ·rintro ⟨b,off,rfl,hlt,hc⟩;refine ⟨b,off,rfl,hlt,fun i hi => ?_⟩
  obtain ⟨cs,⟨q,rfl,hq,-⟩,hcell⟩:=hc i hi;rw [zqax hi];exact ⟨q,by simpa using hcell 0 (by decide),by simpa using hcell 1 (by decide),by simpa using hcell 2 (by decide),hq⟩
 ·obtain ⟨cs,q,-,-,hw⟩:=h3 z hz;exact hw
theorem cell_of {r:Reach} {b0:Nat} {v:Value} {d:DataW H} {p:List MemPlace}
  (hv:Value.okWide Tryz.prog w r b0 32 v) (h:DataW.Trod enc Tryz.prog w base spare held 32 v d p) :
  ∃ I N c,v = CeV c I N ∧ CeM w I N c ∧ CeW c:=by
 obtain ⟨u0,u1,u2,u3,y0,y1,y2,y3,m,rfl,-,-,t0,t1,t2,t3⟩:=Go.Joins.open_agg4 Tryz.underlying32 (by kernel_rfl) (by kernel_rfl) hv h
 obtain ⟨k,e0,-,w0⟩:=DataW.trod_int Tryz.underlying28 t0;obtain ⟨n,e1,-,w1⟩:=DataW.trod_int Tryz.underlying2 t1;obtain ⟨ls,k2,w2⟩:=zqvp t2;obtain ⟨rs,k3,w3⟩:=zqyi t3;cases e0; cases e1
 exact ⟨u2,u3,⟨k,n,ls,rs⟩,rfl,⟨k2,k3⟩,⟨by simp [Lit.wf,IntKind.min,IntKind.max,IntKind.signed,IntKind.bits] at w0; omega,wf_i64 w1,w2,w3⟩⟩
end
end Go.Proofs.YtafmghloohhaeaaGreatDoor
