/- Contracts that the law leans on: Keyc Keyd Keye Keyf Aggp. -/
import Derived.Test.YtpgchfihedcdkaaGreatDoorGt01
import Derived.Test.YtpgchfihedcdkaaGreatDoorGt02
import Derived.Test.YtpgchfihedcdkaaGreatDoorGt20
import Derived.Test.YtpgchfihedcdkaaGreatDoorGt21
import Derived.Test.YtpgchfihedcdkaaGreatDoorGt26
import Derived.Test.YtpgchfihedcdkaaGreatDoorGt27
import Derived.Test.YtpgchfihedcdkaaGreatDoorGt32
namespace Go.Proofs.YtpgchfihedcdkaaGreatDoor
set_option maxRecDepth 100000
open Go.RowKit
set_option linter.unusedVariables false
abbrev IOwn (w:World) (B:Nat) (v:Value) (l:List Int):Prop:=w.ownsRow B 3 1 v l.length (l.map (Value.int .i64))
def codesL (ds:List (ByteArray × Int)) (m q:Int):List Int:=(List.range ds.length).map (codG (dz ds) (bitG m) ds.length q)
theorem zqhj (ds:List (ByteArray × Int)) (m q:Int):(codesL ds m q).length = ds.length:=by simp [codesL]
theorem zqud (ds:List (ByteArray × Int)) (m q:Int) {k:Nat} (hk:k < ds.length):cz (codesL ds m q) k = codG (dz ds) (bitG m) ds.length q k:=by
 simp [cz,codesL,List.getD,hk]
def IFill (w:World) (g cap:Nat) (out:List Int) (wr:World):Prop:=wr.ownsRow w.heap.size 3 1 (.slice (some ⟨g,0,none⟩) out.length cap) out.length (out.map (Value.int .i64)) ∧ Below w.heap.size w wr ∧ w.heap.size ≤ g ∧ g < wr.heap.size
theorem IFill.set {w wr:World} {g cap:Nat} {out:List Int} (h:IFill w g cap out wr) (j:Nat) (x:Int):IFill w g cap (out.set j x) (wr.setCell ⟨g,j,none⟩ (.int .i64 x)):=by
 refine ⟨?_,h.2.1.setCell h.2.2.1 _,h.2.2.1,by simpa using h.2.2.2⟩
 have:=(World.ownsRow.stored h.1 j (.int .i64 x)).1;simpa [List.map_set] using this
theorem IFill.cells {w wr:World} {g cap:Nat} {out:List Int} (h:IFill w g cap out wr) {j:Nat} (hj:j < out.length):wr.cell? ⟨g,j,none⟩ = some (.int .i64 (out.getD j 0)) ∧ wr.frozen? ⟨g,j,none⟩ = false:=by
 have h1:=h.1.1;rw [List.length_map,Nat.mul_one] at h1;refine ⟨?_,World.ownsRow.frozenAt h.1 j⟩;rw [World.ownsRow.cellAt h.1 j (by omega),List.getElem?_map,List.getElem?_eq_getElem hj,List.getD,List.getElem?_eq_getElem hj]
 rfl
theorem zqsa {w w0:World} {n:Nat} {z:Array Value} (hz:z = #[.int .i64 0]) (hown:w0.ownsRow w.heap.size 3 1 (.slice (some ⟨w.heap.size,0,none⟩) n n) n (madeCells z (n * 1)).toList) (hg:w.grownBy w0 none) :
  IFill w w.heap.size n (List.replicate n 0) w0:=by
 subst hz;have hl:=World.ownsRow.lt hown w.heap.size rfl;refine ⟨?_,(Below.refl _ _).grown hg (Nat.le_refl _) (fun k hk => by cases hk),Nat.le_refl _,hl.2⟩
 rw [toList_madeCells_one] at hown;simpa using hown
def SplitAt (ds:List (ByteArray × Int)) (m q:Int) (k:Nat) (out:List Int) (r:Int):Prop :=
 out.length = ds.length ∧ (∀ j,ds.length ≤ j + k → j < ds.length → out.getD j 0 = codG (dz ds) (bitG m) ds.length q j) ∧ r = q / tailG (dz ds) (bitG m) (ds.length - k) k
theorem SplitAt.start (ds:List (ByteArray × Int)) (m q:Int):SplitAt ds m q 0 (List.replicate ds.length 0) q:=⟨by simp,fun j h1 h2 => by omega,by simp [tailG]⟩
theorem SplitAt.range {ds:List (ByteArray × Int)} {m q:Int} {k:Nat} {out:List Int} {r:Int} (h:SplitAt ds m q k out r) (hz:sizB ds = true) (hk:k ≤ ds.length) (q0:0 ≤ q):0 ≤ r ∧ r ≤ q:=by
 obtain ⟨-,-,rfl⟩:=h;have:=zqif (p:=bitG m) (i:=ds.length - k) (fun j hj => zqic hz j hj) k (by omega)
 refine ⟨Int.ediv_nonneg q0 (by omega),Int.ediv_le_self _ q0⟩
theorem SplitAt.step {ds:List (ByteArray × Int)} {m q:Int} {k i:Nat} {out:List Int} {r:Int} (h:SplitAt ds m q k out r) (hz:sizB ds = true) (hi:k + 1 + i = ds.length) :
  (bitG m i = true → SplitAt ds m q (k + 1) ((out.set i (-1)).set i (r % dz ds i)) (r / dz ds i)) ∧ (bitG m i = false → SplitAt ds m q (k + 1) (out.set i (-1)) r):=by
 obtain ⟨h1,h2,h3⟩:=h;have e1:ds.length - k = i + 1:=by omega
 have e2:ds.length - (k + 1) = i:=by omega
 have e3:ds.length - i = k + 1:=by omega
 have e4:ds.length - (i + 1) = k:=by omega
 have e5:ds.length - i - 1 = k:=by omega
 have hs:=zqs4 (p:=bitG m) (fun j hj => zqic hz j hj) q (i:=i) (by omega)
 rw [e3,e4] at hs;rw [e1] at h3;have hcod:codG (dz ds) (bitG m) ds.length q i = if bitG m i = true then r % dz ds i else -1:=by unfold codG; rw [e5,h3]
 have hget:∀ (o:List Int) (c:Int),o.length = ds.length → (∀ j,j ≠ i → o.getD j 0 = out.getD j 0) → o.getD i 0 = codG (dz ds) (bitG m) ds.length q i → ∀ j,ds.length ≤ j + (k + 1) → j < ds.length → o.getD j 0 = codG (dz ds) (bitG m) ds.length q j:=fun o c ho h4 h5 j j1 j2 => by
  by_cases e:j = i
  ·rw [e]; exact h5
  ·rw [h4 j e]; exact h2 j (by omega) j2
 constructor
 ·intro hb;rw [if_pos hb] at hs hcod;refine ⟨by simpa using h1,hget _ 0 (by simpa using h1) (fun j hj => ?_) ?_,?_⟩
  ·simp [List.getD,Ne.symm hj]
  ·rw [hcod]; simp [List.getD,h1,show i < ds.length by omega]
  ·rw [e2,hs,← h3]
 ·intro hb;rw [if_neg (by rw [hb]; decide)] at hs hcod
  refine ⟨by simpa using h1,hget _ 0 (by simpa using h1) (fun j hj => ?_) ?_,?_⟩
  ·simp [List.getD,Ne.symm hj]
  ·rw [hcod]; simp [List.getD,h1,show i < ds.length by omega]
  ·rw [e2,hs,← h3]
theorem SplitAt.done {ds:List (ByteArray × Int)} {m q:Int} {out:List Int} {r:Int} (h:SplitAt ds m q ds.length out r):out = codesL ds m q:=by
 obtain ⟨h1,h2,-⟩:=h;refine List.ext_getElem (by rw [h1,zqhj]) fun j j1 j2 => ?_
 have h3:=h2 j (by omega) (by omega)
 have h4:=zqud ds m q (k:=j) (by omega)
 rw [List.getD,List.getElem?_eq_getElem j1] at h3;unfold cz at h4;rw [List.getD,List.getElem?_eq_getElem j2] at h4;exact h3.trans h4.symm
def OwnB (B:Nat) (w:World) (l:List Int) (e:Ending) (w':World):Prop:=(∃ v,e = .returned v ∧ IOwn w' B v l) ∧ Below B w w'
set_option maxHeartbeats 4000000 in
theorem zqxa (w:World) (D:Value) (ds:List (ByteArray × Int)) (m q:Int) (h:Dims w D ds) (hn:ds.length ≤ 31) (hz:sizB ds = true) (m0:0 ≤ m) (m1:m ≤ 4294967295) (q0:0 ≤ q) (q1:q ≤ 18446744073709551615) :
  Calls Tryz.prog 102 #[D,.int .u32 m,.int .u64 q] w (OwnB w.heap.size w (codesL ds m q)):=by
 obtain ⟨i0,hi,hz0,hz1,hz2⟩:=info_parts Tryz.infoInt;obtain ⟨a,cap,rfl,h1,h2,h3⟩:=h;have HC:=zh h3;have HZ:=zh (fun k (hk:k < ds.length) => zqdc hz hk)
 have HH:=zh (fun w k hk => zqjo w m k hk m0 m1)
 have HR:=zh (fun k out r (h:SplitAt ds m q k out r) hk => h.range hz hk q0)
 have HS:=zh (fun k i out r (h:SplitAt ds m q k out r) hi => h.step (i:=i) hz hi)
 have HD:=zh (fun out r (h:SplitAt ds m q ds.length out r) => h.done)
 have H0:=zh (SplitAt.start ds m q);clear h3 hz;go_enter Tryz.func102,Tryz.ntmps102;go_wp2_with (at_make; refine wpList_make_full _ rfl _ _ 78 rfl w.heap.size 3 i0 (.int .i64 0) 1 Tryz.underlying78 hi hz0 hz1 .i64 .i64 _ _ ds.length rfl rfl rfl rfl (by rw [hz2]; omega) (by unfold maxLen; omega) (Nat.le_refl _) ?_; intro w0 hown hgrow)
 have hF:=zh (zqsa rfl hown hgrow);clear hown hgrow;go_wp2_with fail;go_loopw [2,16] (fun rv i wr => ∃ (k:Nat) (out:List Int) (r:Int),k ≤ ds.length ∧ i = .int .i64 k ∧ rv = .int .u64 r ∧ Hid (SplitAt ds m q k out r) ∧ Hid (IFill w w.heap.size ds.length out wr)) (fun _ i _ => ds.length - (intOf i).toNat)
 case atStart => exact ⟨0,_,q,Nat.zero_le _,rfl,rfl,H0,hF⟩
 case round =>
  obtain ⟨k,out,r,hk,rfl,rfl,hR,hS⟩:=hrel;clear hF H0;have hr:=HR.out k out r hR.out hk
  by_cases hlk:k < ds.length
  ·rcases HC.out with h3 | ⟨b,off,rfl,hlt,hcell⟩
   ·rw [h3] at hlk; simp at hlk
   obtain ⟨i,hi2⟩:∃ i,k + 1 + i = ds.length:=⟨ds.length - (k + 1),by omega⟩
   have hlen:=hR.out.1;obtain ⟨f1,f2⟩:=hS.out.cells (j:=i) (by omega)
   have hST:=zh (HS.out k i out r hR.out hi2);have hB1:=hS.out.set i (-1);obtain ⟨f3,f4⟩:=hB1.cells (j:=i) (by simp; omega)
   have hB2:=zh (fun x => hB1.set i x)
   have hB1:=zh hB1;obtain ⟨c0,c1⟩:=hcell i (by omega)
   have c1:(wr.setCell ⟨w.heap.size,i,none⟩ (.int .i64 (-1))).cell? ⟨b,off + i * 2 + 1,none⟩ = _:=(hB1.out.2.1.cell (p:=⟨b,off + i * 2 + 1,none⟩) hlt).trans c1;have hz:=HZ.out i (by omega)
   have HHk:=zh (fun w => HH.out w i (by omega))
   have ei:(ds.length:Int) - 1 - (k:Int) = (i:Int):=by omega
   clear hcell c0 hR hS hlen;generalize dz ds i = z at *
   by_cases hbit:bitG m i = true
   ·have hST2:=zh (hST.out.1 hbit);rw [hbit] at HHk;have i1:IntKind.u64.wrap z = z:=by rw [IntKind.wrap_u64]; omega
    have i2:r.tmod z = r % z:=Int.tmod_eq_emod_of_nonneg hr.1;have i3:r.tdiv z = r / z:=Int.tdiv_eq_ediv_of_nonneg hr.1;have hm:=Int.emod_lt_of_pos r (show 0 < z by omega)
    have hm0:=Int.emod_nonneg r (show z ≠ 0 by omega)
    have hd0:0 ≤ r / z:=Int.ediv_nonneg hr.1 (by omega)
    have hd1:r / z ≤ r:=Int.ediv_le_self _ hr.1;generalize r % z = y at *;generalize r / z = r2 at *;have i4:IntKind.u64.wrap r2 = r2:=by rw [IntKind.wrap_u64]; omega
    clear hbit hST;go_wp2_with fail;refine (HHk.out _).mono ?_; rintro e w1 ⟨rfl,rfl⟩;go_wp2_with fail;go_roundw
    case rel => exact ⟨k + 1,_,_,by omega,by go_num,rfl,hST2,zh (hB2.out _)⟩
    case measure => simp [intOf]; omega
   ·have hST2:=zh (hST.out.2 (eq_false_of_ne_true hbit));rw [eq_false_of_ne_true hbit] at HHk;clear hbit hST c1 hz;go_wp2_with fail;refine (HHk.out _).mono ?_; rintro e w1 ⟨rfl,rfl⟩;go_wp2_with fail;go_roundw
    case rel => exact ⟨k + 1,_,_,by omega,by go_num,rfl,hST2,hB1⟩
    case measure => simp [intOf]; omega
  ·have:k = ds.length:=by omega
   subst this;have hE:=HD.out out r hR.out;subst hE;have hW:=zh hS.out;clear hR hS;go_wp2_with fail;go_ret;refine ⟨⟨_,rfl,?_⟩,hW.out.2.1⟩;have:=hW.out.1;rw [zqhj] at this;rw [IOwn,zqhj];exact this
def codE (S:Sc) (m q:Int):Nat:=if numE S m = 0 then if keysL S.ds m S.ds.length ≤ q then 2 else 0 else numE S m
def CodesR (B:Nat) (w:World) (S:Sc) (m q:Int) (e:Ending) (w':World):Prop :=
 (∃ v,e = .returned (.tuple #[v,.int .i64 (codE S m q)]) ∧ IOwn w' B v (if codE S m q = 0 then codesL S.ds m q else [])) ∧ Below B w w'
theorem zqvc {w:World} {B B':Nat} {v:Value} {l:List Int} (h:IOwn w B v l) (hb:B' ≤ B):IOwn w B' v l:=by
 refine ⟨h.1,?_⟩;rcases h.2 with h0 | ⟨g,cap,cur,h1,h2,h3⟩
 ·exact .inl h0
 ·exact .inr ⟨g,cap,cur,h1,Nat.le_trans hb h2,h3⟩
theorem iown0 (w:World) (B:Nat):IOwn w B (.slice none 0 0) []:=⟨by simp,.inl ⟨rfl,rfl⟩⟩
theorem zqib {S:Sc} (h:checkL S = 0):S.ds.length ≤ 6 ∧ sizB S.ds = true:=⟨(zqb0.1 (zqhi h).1).2.1,(zqhi h).2.1⟩
set_option maxHeartbeats 4000000 in
theorem zquc (w:World) (D I M V:Value) (S:Sc) (m q:Int) (h:Sch4 w D I M V S) (hw:SWf S) (m0:0 ≤ m) (m1:m ≤ 4294967295) (q0:0 ≤ q) (q1:q ≤ 18446744073709551615) :
  Calls Tryz.prog 51 #[SchV D I M V,.int .u32 m,.int .u64 q] w (CodesR w.heap.size w S m q):=by
 have HB0:=zh (zqab w (SchO D I M V));have HX:=zh (zqa6 w D I M V);have HN:=zh (fun w1 (hb:Below w.heap.size w w1) => zqi3 w1 D I M V S m (h.below hb) hw m0 m1)
 by_cases hn:numE S m = 0
 ·rw [hn,if_pos rfl] at HN;have hy:=zqib (zqlj hn).1;have HS:=zh (fun w1 (hb:Below w.heap.size w w1) => zqxa w1 D S.ds m q (h.below hb).d (by omega) hy.2 m0 m1 q0 q1)
  obtain ⟨⟨a,c,rfl⟩,⟨a2,c2,rfl⟩,⟨a3,c3,rfl⟩,a4,c4,rfl⟩:=h.slices;unfold CodesR
  by_cases hq:keysL S.ds m S.ds.length ≤ q
  ·have hE:codE S m q = 2:=by unfold codE; rw [if_pos hn,if_pos hq]
   rw [hE,if_neg (by decide)]
   generalize keysL S.ds m S.ds.length = ky at *;clear hn hE h hw hy HS;go_enter Tryz.func51,Tryz.ntmps51;go_wp2_with fail;refine (HN.out _ HB0.out).mono ?_; rintro e w1 ⟨rfl,hb⟩;have HB1:=zh (zqaa HB0.out hb);clear hb;go_wp2_with fail;exact bodyPost_ret (v:=.tuple #[.slice none 0 0,.int .i64 2]) (by simp [results,Tryz.results51,go_sem]) rfl ⟨⟨_,rfl,iown0 _ _⟩,HB1.out⟩
  ·have hE:codE S m q = 0:=by unfold codE; rw [if_pos hn,if_neg hq]
   rw [hE,if_pos rfl];generalize keysL S.ds m S.ds.length = ky at *;generalize codesL S.ds m q = l at *;clear hn hE h hw hy;go_enter Tryz.func51,Tryz.ntmps51;go_wp2_with fail;refine (HN.out _ HB0.out).mono ?_; rintro e w1 ⟨rfl,hb⟩;have HB1:=zh (zqaa HB0.out hb);obtain ⟨x0,x1,x2,x3⟩:=(HX.out.below hb).reads;clear hb;go_wp2_with fail;refine (HS.out _ HB1.out).mono ?_; rintro e w2 ⟨⟨v,rfl,hv⟩,hb⟩;have HB2:=zh (zqaa HB1.out hb);have HV:=zh (zqvc hv HB1.out.size);obtain ⟨pa,pl,pc,rfl⟩:=zqae hv;clear hb hv;go_wp2_with fail;exact bodyPost_ret (v:=.tuple #[.slice pa pl pc,.int .i64 0]) (by simp [results,Tryz.results51,go_sem]) rfl ⟨⟨_,rfl,HV.out⟩,HB2.out⟩
 ·obtain ⟨⟨a,c,rfl⟩,⟨a2,c2,rfl⟩,⟨a3,c3,rfl⟩,a4,c4,rfl⟩:=h.slices;have hE:codE S m q = numE S m:=by unfold codE; rw [if_neg hn]
  unfold CodesR;rw [hE,if_neg hn];rw [if_neg hn] at HN;have hz:((numE S m:Int) != 0) = true:=by simp; omega
  generalize (numE S m:Int) = ne at *;clear hn hE h hw;go_enter Tryz.func51,Tryz.ntmps51;go_wp2_with fail;refine (HN.out _ HB0.out).mono ?_; rintro e w1 ⟨rfl,hb⟩;have HB1:=zh (zqaa HB0.out hb);clear hb;go_wp2_with fail;exact bodyPost_ret (v:=.tuple #[.slice none 0 0,.int .i64 ne]) (by simp [results,Tryz.results51,go_sem]) rfl ⟨⟨_,rfl,iown0 _ _⟩,HB1.out⟩
def rngAt (ds:List (ByteArray × Int)) (m:Int) (l:List Int) (k:Nat):Bool:=!bitG m k || (decide (0 ≤ cz l k) && decide (cz l k < dz ds k))
def rngB (ds:List (ByteArray × Int)) (m:Int) (l:List Int):Bool:=(List.range ds.length).all (rngAt ds m l)
theorem zqww {ds:List (ByteArray × Int)} {m:Int} {l:List Int} (h:∀ k,k < ds.length → rngAt ds m l k = true):InG (dz ds) (cz l) (bitG m) ds.length:=fun k hk hp => by
 have:=h k hk;unfold rngAt at this;rw [hp] at this;simpa using this
theorem zq0a {ds:List (ByteArray × Int)} {m:Int} {l:List Int} (h:∀ k,k < ds.length → rngAt ds m l k = true):rngB ds m l = true:=List.all_eq_true.2 fun x hx => h x (by simpa using hx)
theorem zq19 {ds:List (ByteArray × Int)} {m:Int} {l:List Int} {k:Nat} (hk:k < ds.length) (h:rngAt ds m l k = false):rngB ds m l = false:=List.all_eq_false.2 ⟨k,by simpa using hk,by simp [h]⟩
theorem zq2a {ds:List (ByteArray × Int)} {m:Int} {l:List Int} (h:rngB ds m l = true):∀ k,k < ds.length → rngAt ds m l k = true:=fun k hk => List.all_eq_true.1 h k (by simpa using hk)
def ofE (S:Sc) (m:Int) (l:List Int):Nat:=if numE S m = 0 then if l.length = S.ds.length then if rngB S.ds m l = true then 0 else 2 else 3 else numE S m
def ofL (S:Sc) (m:Int) (l:List Int):Int:=if ofE S m l = 0 then keyG (dz S.ds) (cz l) (bitG m) S.ds.length else 0
theorem zq3a {S:Sc} {m:Int} {l:List Int} (h:ofE S m l = 0):numE S m = 0 ∧ l.length = S.ds.length ∧ InG (dz S.ds) (cz l) (bitG m) S.ds.length:=by
 unfold ofE at h
 split at h
 ·rename_i h1
  split at h
  ·rename_i h2
   split at h
   ·rename_i h3; exact ⟨h1,h2,zqww (zq2a h3)⟩
   ·cases h
  ·cases h
 ·rename_i h1; exact absurd h h1
set_option maxHeartbeats 8000000 in
theorem zq1v (w:World) (D I M V u:Value) (S:Sc) (m:Int) (l:List Int) (h:Sch4 w D I M V S) (hw:SWf S) (hu:Ints .i64 w u l) (m0:0 ≤ m) (m1:m ≤ 4294967295) :
  Calls Tryz.prog 85 #[SchV D I M V,.int .u32 m,u] w fun e w' => e = .returned (.tuple #[.int .u64 (ofL S m l),.int .i64 (ofE S m l)]) ∧ Below w.heap.size w w':=by
 have HB0:=zh (zqab w (SchO D I M V));have HX:=zh (zqa6 w D I M V);have HN:=zh (fun w1 (hb:Below w.heap.size w w1) => zqi3 w1 D I M V S m (h.below hb) hw m0 m1)
 obtain ⟨pu,cu,rfl,hcu,-⟩:=id hu;have HU:=zh hu
 by_cases hn:numE S m = 0
 ·rw [hn,if_pos rfl] at HN;have hy:=zqib (zqlj hn).1;have HH:=zh (fun w k hk => zqjo w m k hk m0 m1)
  have hd:=h.d;have HD:=zh h.d;obtain ⟨⟨p,c,rfl⟩,⟨p2,c2,rfl⟩,⟨p3,c3,rfl⟩,p4,c4,rfl⟩:=h.slices
  by_cases hl:l.length = S.ds.length
  ·have HJ:=zh (fun w1 (hb:Below w.heap.size w w1) (hc:InG (dz S.ds) (cz l) (bitG m) S.ds.length) => zqvh w1 _ _ S.ds m l (HD.out.below hb) (hu.below hb) (by omega) hl hy.2 hc m0 m1)
   have HE2:=zh (fun (q:rngB S.ds m l = false) => show ofE S m l = 2 ∧ ofL S m l = 0 by
    have hE:ofE S m l = 2:=by unfold ofE; rw [if_pos hn,if_pos hl,q]; rfl
    exact ⟨hE,by unfold ofL; rw [hE]; rfl⟩)
   have HE0:=zh (fun (q:rngB S.ds m l = true) => show ofE S m l = 0 ∧ ofL S m l = keyG (dz S.ds) (cz l) (bitG m) S.ds.length by
    have hE:ofE S m l = 0:=by unfold ofE; rw [if_pos hn,if_pos hl,if_pos q]
    exact ⟨hE,by unfold ofL; rw [if_pos hE]⟩)
   obtain ⟨a',cap',e',h1,h2,h3⟩:=hd;obtain ⟨rfl,rfl⟩:p = a' ∧ c = cap':=by injection e' with e1 e2 e3; exact ⟨e1,e3⟩
   have HC:=zh h3;have HG:=zh (@zq0a S.ds m l);have HI:=zh (@zqww S.ds m l);have HBd:=zh (fun k => @zq19 S.ds m l k)
   have HAt:=zh (fun k => show rngAt S.ds m l k = (!bitG m k || (decide (0 ≤ cz l k) && decide (cz l k < dz S.ds k))) from rfl)
   rw [hl] at HJ;rw [hl] at HU;rw [hl] at hcu;rw [hl];generalize keysL S.ds m S.ds.length = ky at *;generalize keyG (dz S.ds) (cz l) (bitG m) S.ds.length = ans at *;generalize ofE S m l = oe at *;generalize ofL S m l = ol at *;generalize rngB S.ds m l = rb at *;have hn6:=hy.1;clear hn h hw e' h3 hy hu;go_enter Tryz.func85,Tryz.ntmps85;go_wp2_with fail;refine (HN.out _ HB0.out).mono ?_; rintro e w1 ⟨rfl,hb⟩;have HB1:=zh (zqaa HB0.out hb);have HX1:=zh (HX.out.below hb);obtain ⟨x0,x1,x2,x3⟩:=(HX.out.below hb).reads;clear hb;go_wp2_with fail;go_loopw [30] (fun i wr => ∃ k:Nat,k ≤ S.ds.length ∧ i = .int .i64 k ∧ Hid (Below w.heap.size w wr ∧ Box wr w.heap.size (.slice p S.ds.length c) (.slice p2 S.is.length c2) (.slice p3 S.ns.length c3) (.slice p4 S.vs.length c4)) ∧ Hid (∀ j,j < k → rngAt S.ds m l j = true)) (fun i _ => S.ds.length - (intOf i).toNat)
   case atStart => exact ⟨0,Nat.zero_le _,rfl,zh ⟨HB1.out,HX1.out⟩,zh (fun j hj => by omega)⟩
   case round =>
    obtain ⟨k,hk,rfl,HB,HJk⟩:=hrel;clear x0 x1 x2 x3
    by_cases hlk:k < S.ds.length
    ·rcases HC.out with h3 | ⟨b,off,rfl,hlt,hcell⟩
     ·rw [h3] at hlk; simp at hlk
     obtain ⟨c0,c1⟩:=hcell k hlk;have c0:wr.cell? ⟨b,off + k * 2,none⟩ = _:=(HB.out.1.cell (p:=⟨b,off + k * 2,none⟩) hlt).trans c0;have c1:wr.cell? ⟨b,off + k * 2 + 1,none⟩ = _:=(HB.out.1.cell (p:=⟨b,off + k * 2 + 1,none⟩) hlt).trans c1;obtain ⟨b2,o2,hp2,hb2,hc2⟩:=HU.out.cell (i:=k) (by omega)
     subst hp2;have hc2:=cell_later HB.out.1 hc2;have hc3:wr.cell? ⟨b2,o2 + k,none⟩ = some (.int .i64 (cz l k)):=hc2;have HHk:=zh (fun w => (HH.out w k (by omega)).mono fun _ _ h => And.intro h.1 h.2.symm)
     have HAk:=HAt.out k;have HBk:=zh (fun q => HBd.out k hlk q)
     have HNx:=zh (fun q:rngAt S.ds m l k = true => fun j (hj:j < k + 1) => if e:j = k then (e ▸ q:rngAt S.ds m l j = true) else HJk.out j (by omega))
     have hB1:=zqab wr (.cells #[.string (dn S.ds k),.int .i64 (dz S.ds k)] 76);have hc4:=cell_later hB1 hc3;have HB1k:=zh (And.intro (HB.out.1.alloc HB.out.1.size (.cells #[.string (dn S.ds k),.int .i64 (dz S.ds k)] 76)) (HB.out.2.below hB1));have hle:Hid (k + 1 ≤ S.ds.length):=zh (by omega)
     have hwr:=HB.out.1.size;clear hc2 hB1 hcell;generalize dn S.ds k = x at *;generalize dz S.ds k = z at *;generalize cz l k = y at *;generalize rngAt S.ds m l k = t at *;generalize bitG m k = bt at *;cases bt with
     | false =>
      have HNy:=zh (HNx.out (by rw [HAk]; rfl))
      clear HNx HBk HAk hc3 hc4;go_upto_region 9 with fail;go_quiet ((go_at_call 164; exact Calls.quiet_of_same (HHk.out _)));have HB2:=zh (And.intro (below_drewN HB1k.out.1 nq) (show Box ((wr.alloc (.cells #[.string x,.int .i64 z] 76)).drewN nq) w.heap.size _ _ _ _ from HB1k.out.2));go_wp2;go_roundw
      case rel => exact ⟨k + 1,hle.out,by go_num,HB2,HNy⟩
      case measure => simp [intOf]; omega
     | true =>
      by_cases hy0:y < 0
      ·have hR:=HE2.out (HBk.out (by rw [HAk,decide_eq_false (p:=0 ≤ y) (by omega)]; rfl))
       obtain ⟨rfl,rfl⟩:=hR;clear HNx HBk HAk;go_upto_region 9 with fail;go_quiet ((go_at_call 164; exact Calls.quiet_of_same (HHk.out _)));have HB2:=zh (below_drewN HB1k.out.1 nq);go_wp2;exact bodyPost_ret (v:=.tuple #[.int .u64 0,.int .i64 2]) (by simp [results,Tryz.results85,go_sem]) rfl ⟨rfl,HB2.out⟩
      ·by_cases hyz:z ≤ y
       ·have hR:=HE2.out (HBk.out (by rw [HAk,decide_eq_false (p:=y < z) (by omega)]; simp))
        obtain ⟨rfl,rfl⟩:=hR;clear HNx HBk HAk;go_upto_region 9 with fail;go_quiet ((go_at_call 164; exact Calls.quiet_of_same (HHk.out _)));have HB2:=zh (below_drewN HB1k.out.1 nq);go_wp2;exact bodyPost_ret (v:=.tuple #[.int .u64 0,.int .i64 2]) (by simp [results,Tryz.results85,go_sem]) rfl ⟨rfl,HB2.out⟩
       ·have HNy:=zh (HNx.out (by rw [HAk]; simp; omega))
        clear HNx HBk HAk;go_upto_region 9 with fail;go_quiet ((go_at_call 164; exact Calls.quiet_of_same (HHk.out _)));have HB2:=zh (And.intro (below_drewN HB1k.out.1 nq) (show Box ((wr.alloc (.cells #[.string x,.int .i64 z] 76)).drewN nq) w.heap.size _ _ _ _ from HB1k.out.2));go_wp2;go_roundw
        case rel => exact ⟨k + 1,hle.out,by go_num,HB2,HNy⟩
        case measure => simp [intOf]; omega
    ·have:k = S.ds.length:=by omega
     subst this;have hR:=HE0.out (HG.out HJk.out);obtain ⟨rfl,rfl⟩:=hR;have HQ:=zh (fun w1 hb => HJ.out w1 hb (HI.out HJk.out))
     obtain ⟨y0,y1,y2,y3⟩:=HB.out.2.reads;go_wp2_with fail;refine (HQ.out _ HB.out.1).mono ?_; rintro e w2 ⟨rfl,hb⟩;have HB2:=zh (zqaa HB.out.1 hb);clear hb;go_wp2_with fail;exact bodyPost_ret (v:=.tuple #[.int .u64 ol,.int .i64 0]) (by simp [results,Tryz.results85,go_sem]) rfl ⟨rfl,HB2.out⟩
  ·have hE:ofE S m l = 3:=by unfold ofE; rw [if_pos hn,if_neg hl]
   have hL:ofL S m l = 0:=by unfold ofL; rw [hE]; rfl
   rw [hE,hL];have hne:((l.length:Int) != (S.ds.length:Int)) = true:=by simp; omega
   generalize keysL S.ds m S.ds.length = ky at *;clear hn hE h hw hy HH hL hl hd HD;go_enter Tryz.func85,Tryz.ntmps85;go_wp2_with fail;refine (HN.out _ HB0.out).mono ?_; rintro e w1 ⟨rfl,hb⟩;have HB1:=zh (zqaa HB0.out hb);obtain ⟨x0,x1,x2,x3⟩:=(HX.out.below hb).reads;clear hb;go_wp2_with fail;exact bodyPost_ret (v:=.tuple #[.int .u64 0,.int .i64 3]) (by simp [results,Tryz.results85,go_sem]) rfl ⟨rfl,HB1.out⟩
 ·obtain ⟨⟨p,c,rfl⟩,⟨p2,c2,rfl⟩,⟨p3,c3,rfl⟩,p4,c4,rfl⟩:=h.slices;have hE:ofE S m l = numE S m:=by unfold ofE; rw [if_neg hn]
  have hL:ofL S m l = 0:=by unfold ofL; rw [hE,if_neg hn]
  rw [hE,hL];rw [if_neg hn] at HN;have hz:((numE S m:Int) != 0) = true:=by simp; omega
  generalize (numE S m:Int) = ne at *;clear hn hE h hw hL;go_enter Tryz.func85,Tryz.ntmps85;go_wp2_with fail;refine (HN.out _ HB0.out).mono ?_; rintro e w1 ⟨rfl,hb⟩;have HB1:=zh (zqaa HB0.out hb);clear hb;go_wp2_with fail;exact bodyPost_ret (v:=.tuple #[.int .u64 0,.int .i64 ne]) (by simp [results,Tryz.results85,go_sem]) rfl ⟨rfl,HB1.out⟩
def minB (l:List Int):Bool:=(List.range l.length).any fun k => l.getD k 0 == -9223372036854775808
theorem zqqu {l:List Int} {k:Nat} (hk:k < l.length) (h:l.getD k 0 = -9223372036854775808):minB l = true:=List.any_eq_true.2 ⟨k,by simpa using hk,by rw [h]; rfl⟩
theorem zq28 {l:List Int} (h:∀ j,j < l.length → l.getD j 0 ≠ -9223372036854775808):minB l = false:=by
 unfold minB;rw [List.any_eq_false];intro x hx;simpa using h x (by simpa using hx)
def oneE (S:Sc) (m:Int) (f:Fa):Nat:=if checkL S = 0 then if fitsL S f = 0 then if ofE S m f.cs = 0 then if minB f.is = true then 10 else 0 else ofE S m f.cs else fitsL S f else 1
structure OC (S:Sc) (m:Int) (f:Fa) (c:Ce):Prop where
 key:c.key = ofL S m f.cs
 cnt:c.cnt = 1
 li:c.is.length = f.is.length
 ln:c.ns.length = f.ns.length
 is:∀ k,k < f.is.length → OW (f.is.getD k 0) (wg c.is k)
 ns:∀ k,k < f.ns.length → OR (f.ns.getD k 0) (rg c.ns k)
def POne (S:Sc) (m:Int) (f:Fa) (w:World) (e:Ending) (w':World):Prop :=
 ∃ c I N,e = .returned (.tuple #[CeV c I N,.int .i64 (oneE S m f)]) ∧ CeM w' I N c ∧ (oneE S m f = 0 → OC S m f c) ∧ (oneE S m f ≠ 0 → c = ce0) ∧ Below w.heap.size w w'
theorem po_no {S:Sc} {m:Int} {f:Fa} {w w':World} {k:Nat} (h:oneE S m f = k) (hk:k ≠ 0) (hb:Below w.heap.size w w'):POne S m f w (.returned (.tuple #[.agg #[.int .u64 0,.int .i64 0,.slice none 0 0,.slice none 0 0],.int .i64 k])) w' :=
 ⟨ce0,_,_,by rw [h]; rfl,zqio w',fun e => absurd (h.symm.trans e) hk,fun _ => rfl,hb⟩
theorem zqpt {w:World} {cs ds es:Array Value} {T U V:TypeId}:(((w.alloc (.cells cs T)).alloc (.cells ds U)).alloc (.cells es V)).heap[w.heap.size]? = some (.cells cs T (0,0)) ∧ (((w.alloc (.cells cs T)).alloc (.cells ds U)).alloc (.cells es V)).heap[w.heap.size + 1]? = some (.cells ds U (0,0)) ∧ (((w.alloc (.cells cs T)).alloc (.cells ds U)).alloc (.cells es V)).heap[w.heap.size + 1 + 1]? = some (.cells es V (0,0)) ∧ Below w.heap.size w (((w.alloc (.cells cs T)).alloc (.cells ds U)).alloc (.cells es V)):=by
 have b1:=zqab w (.cells cs T);have b2:=zqab (w.alloc (.cells cs T)) (.cells ds U);have b3:=zqab ((w.alloc (.cells cs T)).alloc (.cells ds U)) (.cells es V);have h1:(w.alloc (.cells cs T)).heap[w.heap.size]? = some (.cells cs T (0,0)):=heap_alloc_new w _;have h2:((w.alloc (.cells cs T)).alloc (.cells ds U)).heap[(w.alloc (.cells cs T)).heap.size]? = some (.cells ds U (0,0)):=heap_alloc_new _ _;have h3:(((w.alloc (.cells cs T)).alloc (.cells ds U)).alloc (.cells es V)).heap[((w.alloc (.cells cs T)).alloc (.cells ds U)).heap.size]? = some (.cells es V (0,0)):=heap_alloc_new _ _;simp only [World.size_alloc] at h2 h3;refine ⟨?_,?_,h3,zqaa (zqaa b1 b2) b3⟩
 ·rw [(zqaa b2 b3).block _ (by simp)]; exact h1
 ·rw [b3.block _ (by simp)]; exact h2
theorem zq2g {P:Wh → Prop} {ps:List (Value × Wh)} {q:Value} {x:Wh} {j k:Nat} (hp:ps.length = k) (hj:j < k + 1) (h1:j < k → P (wg (ps.map Prod.snd) j)) (h2:j = k → P x):P (wg ((ps ++ [(q,x)]).map Prod.snd) j):=by
 by_cases e:j = k
 ·have e2:wg ((ps ++ [(q,x)]).map Prod.snd) j = x:=by rw [zqbl (by simp [hp]; omega)]; subst e; simp [← hp]
  rw [e2]; exact h2 e
 ·have e2:wg ((ps ++ [(q,x)]).map Prod.snd) j = wg (ps.map Prod.snd) j:=by rw [zqbl (by simp [hp]; omega),zqbl (by simp [hp]; omega)]; simp [List.getElem_append_left,hp,show j < k by omega]
  rw [e2]; exact h1 (by omega)
theorem zq2f {P:Re → Prop} {ps:List (Value × Re)} {q:Value} {x:Re} {j k:Nat} (hp:ps.length = k) (hj:j < k + 1) (h1:j < k → P (rg (ps.map Prod.snd) j)) (h2:j = k → P x):P (rg ((ps ++ [(q,x)]).map Prod.snd) j):=by
 by_cases e:j = k
 ·have e2:rg ((ps ++ [(q,x)]).map Prod.snd) j = x:=by rw [zqa3 (by simp [hp]; omega)]; subst e; simp [← hp]
  rw [e2]; exact h2 e
 ·have e2:rg ((ps ++ [(q,x)]).map Prod.snd) j = rg (ps.map Prod.snd) j:=by rw [zqa3 (by simp [hp]; omega),zqa3 (by simp [hp]; omega)]; simp [List.getElem_append_left,hp,show j < k by omega]
  rw [e2]; exact h1 (by omega)
set_option maxHeartbeats 8000000 in
theorem zqzv (w:World) (D I M V C J X:Value) (S:Sc) (m:Int) (f:Fa) (h:Sch4 w D I M V S) (hw:SWf S) (h':Fact3 w C J X f) (hf:FaWf f) (m0:0 ≤ m) (m1:m ≤ 4294967295) (hT:Tab w) (hT2:Tab64 w) :
  Calls Tryz.prog 37 #[SchV D I M V,.int .u32 m,FactV C J X] w (POne S m f w):=by
 obtain ⟨b1,b2,b3,b4⟩:=zqpt (w:=w) (T:=26) (U:=82) (V:=32) (cs:=#[D,I,M,V]) (ds:=#[C,J,X]) (es:=#[.int .u64 0,.int .i64 0,.slice none 0 0,.slice none 0 0]);have HB:=zh b4;have HX:=zh (show Box _ w.heap.size D I M V from b1);have HY:=zh b2;have HZ:=zh b3;have HC:=zh (fun w1 (hb:Below w.heap.size w w1) => zqrz w1 D I M V C J X S f (h.below hb) hw (h'.below hb) hf)
 have HO:=zh (fun w1 (hb:Below w.heap.size w w1) => zq1v w1 D I M V C S m f.cs (h.below hb) hw (h'.c.below hb) m0 m1)
 have HFi:=zh (fun w1 (hb:Below w.heap.size w w1) => h'.i.below hb)
 have HFn:=zh (fun w1 (hb:Below w.heap.size w w1) => h'.n.below hb)
 have HOw:=zh (fun k (hk:k < f.is.length) w1 => zqss w1 (f.is.getD k 0) (zqew (P:=I64) hf.i hk))
 have HOr:=zh (fun k (hk:k < f.ns.length) w1 (hb:Below w.heap.size w w1) => zqv0 w1 (f.ns.getD k 0) (zqew (P:=W64) hf.n hk) (hT.call hb) (hT2.call hb))
 have HSm:=zh (fun hc h => zqmb (S:=S) hc hf h)
 have HE:=zh (show oneE S m f = if checkL S = 0 then if fitsL S f = 0 then if ofE S m f.cs = 0 then if minB f.is = true then 10 else 0 else ofE S m f.cs else fitsL S f else 1 from rfl)
 obtain ⟨⟨a1,c1,rfl⟩,⟨a2,c2,rfl⟩,⟨a3,c3,rfl⟩,a4,c4,rfl⟩:=h.slices;obtain ⟨⟨p1,d1,rfl⟩,⟨p2,d2,rfl⟩,p3,d3,rfl⟩:=h'.slices;unfold OWP at HOw;unfold ORP at HOr;clear h h' hw hf hT hT2 m0 m1 b1 b2 b3 b4;go_enter Tryz.func37,Tryz.ntmps37;go_upto_region 1 with fail;generalize ((w.alloc (SchO (.slice a1 S.ds.length c1) (.slice a2 S.is.length c2) (.slice a3 S.ns.length c3) (.slice a4 S.vs.length c4))).alloc (FaO (.slice p1 f.cs.length d1) (.slice p2 f.is.length d2) (.slice p3 f.ns.length d3))).alloc (.cells #[.int .u64 0,.int .i64 0,.slice none 0 0,.slice none 0 0] 32) = W at *;obtain ⟨x0,x1,x2,x3⟩:=HX.out.reads;obtain ⟨y0,y1,y2⟩:=row3 HY.out;obtain ⟨⟨z0,z1,z2,z3⟩,zf⟩:=zqac HZ.out;have hlt:w.heap.size + 1 + 1 < W.heap.size:=(Array.getElem?_eq_some_iff.1 HZ.out).1;have HNo:=zh (fun (w9:World) (k:Nat) (hb9:Below W.heap.size W w9) (he:oneE S m f = k) (hk:k ≠ 0) => And.intro (zqbg (k':=0) (n':=0) (I':=.slice none 0 0) (N':=.slice none 0 0) ((hb9.block _ hlt).trans HZ.out)) (po_no he hk (zqa2 (R:=w.heap.size + 1 + 1) (k':=0) (n':=0) (I':=.slice none 0 0) (N':=.slice none 0 0) (HB.out.trans (hb9.mono HB.out.size)) (by omega))))
 unfold set4 at HNo;go_wp2_with fail;refine (HC.out _ HB.out).mono ?_; rintro e w1 ⟨rfl,hb1⟩;have HW1:=zh hb1;have HB1:=zh (zqaa HB.out hb1);have x0:=cell_later hb1 x0;have x1:=cell_later hb1 x1;have x2:=cell_later hb1 x2;have x3:=cell_later hb1 x3;have y0:=cell_later hb1 y0;have y1:=cell_later hb1 y1;have y2:=cell_later hb1 y2;have hz:=(hb1.block _ hlt).trans HZ.out;clear hb1 z0 z1 z2 z3 zf HC;obtain ⟨⟨z0,z1,z2,z3⟩,zf⟩:=zqac hz;have hE1:∃ E1:Nat,(if checkL S = 0 then ((fitsL S f:Nat):Int) else 1) = (E1:Int) ∧ ((E1 = 0 ∧ checkL S = 0 ∧ fitsL S f = 0) ∨ (E1 ≠ 0 ∧ oneE S m f = E1)):=by
  by_cases q:checkL S = 0
  ·refine ⟨fitsL S f,by rw [if_pos q],?_⟩
   by_cases q2:fitsL S f = 0
   ·exact .inl ⟨q2,q,q2⟩
   ·exact .inr ⟨q2,by rw [HE.out,if_pos q,if_neg q2]⟩
  ·exact ⟨1,by rw [if_neg q]; rfl,.inr ⟨by decide,by rw [HE.out,if_neg q]⟩⟩
 obtain ⟨E1,e1,hE1⟩:=hE1;rw [e1];clear e1;rcases hE1 with ⟨rfl,hc0,hf0⟩ | ⟨hne,hoe⟩
 rotate_left
 ·have HR:=zh (HNo.out _ E1 HW1.out hoe hne);have hn:((E1:Int) != 0) = true:=by simp [hne]
  clear HNo hoe hne HO HOw HOr HFi HFn HSm HE hz;go_wp2_with fail;obtain ⟨⟨r0,r1,r2,r3⟩,-⟩:=zqac HR.out.1;exact bodyPost_ret (v:=.tuple #[.agg #[.int .u64 0,.int .i64 0,.slice none 0 0,.slice none 0 0],.int .i64 E1]) (by simp [results,Tryz.results37,go_sem,r0,r1,r2,r3]) rfl HR.out.2
 ·have HE2:=zh (show oneE S m f = if ofE S m f.cs = 0 then if minB f.is = true then 10 else 0 else ofE S m f.cs by rw [HE.out,if_pos hc0,if_pos hf0])
  have HSz:=zh (HSm.out hc0 hf0);clear HE HSm;go_wp2_with fail;refine (HO.out _ HB1.out).mono ?_; rintro e w2 ⟨rfl,hb2⟩;have HW2:=zh (zqaa HW1.out hb2);have HB2:=zh (zqaa HB1.out hb2);have y1:=cell_later hb2 y1;have y2:=cell_later hb2 y2;have hz2:=(HW2.out.block _ hlt).trans HZ.out;clear hb2 z0 z1 z2 z3 zf HO x0 x1 x2 x3 y0 hz;obtain ⟨⟨z0,z1,z2,z3⟩,zf⟩:=zqac hz2
  by_cases ho:ofE S m f.cs = 0
  rotate_left
  ·have HR:=zh (HNo.out _ (ofE S m f.cs) HW2.out (by rw [HE2.out,if_neg ho]) ho)
   have hn:((ofE S m f.cs:Int) != 0) = true:=by simp [ho]
   clear HNo HOw HOr HFi HFn HE2 hz2 ho;generalize ofE S m f.cs = E1 at *;generalize ofL S m f.cs = K at *;go_wp2_with fail;obtain ⟨⟨r0,r1,r2,r3⟩,-⟩:=zqac HR.out.1;exact bodyPost_ret (v:=.tuple #[.agg #[.int .u64 0,.int .i64 0,.slice none 0 0,.slice none 0 0],.int .i64 E1]) (by simp [results,Tryz.results37,go_sem,r0,r1,r2,r3]) rfl HR.out.2
  ·have HE3:=zh (show oneE S m f = if minB f.is = true then 10 else 0 by rw [HE2.out,if_pos ho])
   have HOC:=zh (fun c k1 k2 k3 k4 k5 k6 => (⟨k1,k2,k3,k4,k5,k6⟩:OC S m f c))
   rw [ho];clear HE2 ho;generalize ofL S m f.cs = K at *;go_upto_region 8 with fail;have hb3:=zqab w2 (.cells (boxV K 1 (.slice none 0 0) (.slice none 0 0)) 32);have HC0:=zh (show (w2.alloc (.cells (boxV K 1 (.slice none 0 0) (.slice none 0 0)) 32)).heap[w2.heap.size]? = some (.cells (boxV K 1 (.slice none 0 0) (.slice none 0 0)) 32 (0,0)) from heap_alloc_new w2 _);have y1:=cell_later hb3 y1;have y2:=cell_later hb3 y2;have HW3:=zh hb3;have hR2:w.heap.size + 1 + 1 < w2.heap.size:=Nat.lt_of_lt_of_le hlt HW2.out.size;have hF2:w.heap.size + 1 < w2.heap.size:=by omega
   have HY2:=zh ((HW2.out.block _ (by omega)).trans HY.out)
   have HZ2:=zh hz2;clear hb3 z0 z1 z2 z3 zf hz2;generalize w2.alloc (.cells (boxV K 1 (.slice none 0 0) (.slice none 0 0)) 32) = W3 at *;obtain ⟨i0,hi,hz0,hz1,hz2⟩:=info_parts Tryz.infoWhole;have hmi:f.is.length ≤ 9223372036854775807:=by have:=HSz.out.2.2.1; omega
   have hmn:f.ns.length ≤ 9223372036854775807:=by have:=HSz.out.2.2.2; omega
   go_wp2_with fail;clear y1 y2;go_loopw [42] (fun iv wr => ∃ (k:Nat) (v:Value) (ps:List (Value × Wh)),k ≤ f.is.length ∧ iv = .int .i64 k ∧ Hid (ps.length = k ∧ Below w2.heap.size w2 wr ∧ wr.heap[w2.heap.size]? = some (.cells (boxV K 1 v (.slice none 0 0)) 32 (0,0)) ∧ WsOwn wr w2.heap.size v ps ∧ ∀ j,j < k → f.is.getD j 0 ≠ -9223372036854775808 ∧ OW (f.is.getD j 0) (wg (ps.map Prod.snd) j))) (fun iv _ => f.is.length - (intOf iv).toNat)
   case atStart => exact ⟨0,_,[],Nat.zero_le _,rfl,zh ⟨rfl,HW3.out,HC0.out,WsOwn.nil _ _,fun j hj => by omega⟩⟩
   case round =>
    obtain ⟨k,v,ps,hk,rfl,HS⟩:=hrel;have HBw:=zh (HB2.out.trans (HS.out.2.1.mono HB2.out.size))
    by_cases hlk:k < f.is.length
    ·have hlk':(k:Int) < (f.is.length:Int):=by omega
     have hle:Hid (k + 1 ≤ f.is.length):=zh (by omega)
     obtain ⟨b,off,rfl,-,g0⟩:=zqu7 (HFi.out _ HBw.out) hlk;have HOk:=zh (HOw.out k hlk);have HSk:=zh (fun E (q:oneE S m f = E) => q)
     obtain ⟨x,hx⟩:∃ x,f.is.getD k 0 = x:=⟨_,rfl⟩
     have HXk:=zh hx;rw [hx] at g0 HOk;clear hx;go_wp2_with fail;refine (HOk.out _).mono ?_; rintro e w4 ⟨z0,z1,lz,z3,z4,pq,cq,E,rfl,hb4,hc,hO⟩;have hb5:=zqaa hb4 (zqab w4 (.cells #[.int .i64 z0,.int .i64 z1,.slice pq lz.length cq,.int .i64 z3,.int .i64 z4] 71));obtain ⟨e0,e1,e2,e3,e4⟩:=row5 (heap_alloc_new w4 (.cells #[.int .i64 z0,.int .i64 z1,.slice pq lz.length cq,.int .i64 z3,.int .i64 z4] 71));have HB5:=zh (HS.out.2.1.trans (hb5.mono HS.out.2.1.size));have HWs:=zh (HS.out.2.2.2.1.below hb5);have HOq:=zh (zqay (zqax hO (B':=w2.heap.size) HS.out.2.1.size) (zqab w4 (.cells #[.int .i64 z0,.int .i64 z1,.slice pq lz.length cq,.int .i64 z3,.int .i64 z4] 71)));have hCC:=(hb5.block _ (Array.getElem?_eq_some_iff.1 HS.out.2.2.1).1).trans HS.out.2.2.1;have HCC:=zh hCC;have HPs:=zh HS.out.1;have HJl:=zh HS.out.2.2.2.2;clear hb4 hb5 hO g0 HS HOk;go_upto_region 12 with fail;generalize w4.alloc (.cells #[.int .i64 z0,.int .i64 z1,.slice pq lz.length cq,.int .i64 z3,.int .i64 z4] 71) = w5 at *;rcases hc with ⟨hxm,rfl⟩ | ⟨hxm,rfl,hOW⟩
     ·have HR:=zh (HNo.out w5 10 (HW2.out.trans (HB5.out.mono HW2.out.size)) (by rw [HE3.out,if_pos (zqqu hlk (HXk.out.trans hxm))]) (by decide))
      have hzz:=(HB5.out.block _ hR2).trans HZ2.out;obtain ⟨⟨q0,q1,q2,q3⟩,zf⟩:=zqac hzz;clear HNo HOw HOr HFi HFn hCC hzz e0 e1 e2 e3 e4 hxm;go_wp2_with fail;obtain ⟨⟨r0,r1,r2,r3⟩,-⟩:=zqac HR.out.1;exact bodyPost_ret (v:=.tuple #[.agg #[.int .u64 0,.int .i64 0,.slice none 0 0,.slice none 0 0],.int .i64 10]) (by simp [results,Tryz.results37,go_sem,r0,r1,r2,r3]) rfl HR.out.2
     ·have HOW:=zh (And.intro hxm hOW);obtain ⟨pv,cv,rfl⟩:=zqai HWs.out.1;obtain ⟨⟨-,-,q2,-⟩,-⟩:=zqac hCC;clear hxm hOW hCC;go_wp2_with (at_builtin; refine wpList_append_own _ rfl _ _ 29 rfl w2.heap.size 71 i0 (.agg #[.int .i64 0,.int .i64 0,.slice none 0 0,.int .i64 0,.int .i64 0]) 5 56 Tryz.underlying29 hi hz0 hz1 hz2 zqdp (by decide) _ _ (cellsW ps) rfl (zqay HWs.out.1 (zqab _ _)) ⟨w5.heap.size,0,none⟩ 1 1 [.int .i64 z0,.int .i64 z1,.slice pq lz.length cq,.int .i64 z3,.int .i64 z4] rfl rfl (World.news_of_block (heap_alloc_new w5 _)) (by intro u hu; simp at hu; rcases hu with rfl | rfl | rfl | rfl | rfl <;> rfl) (by have:=HPs.out; have:=HSz.out.2.2.1; unfold maxLen; omega) (by have:=HPs.out; have:=HSz.out.2.2.1; omega) (by have:=HB5.out.size; simp; omega) ?_; intro v' w9 hown hgrow hiff; clear hiff; have HZ9:=zh (WsOwn.push (x:=⟨z0,z1,lz,z3,z4⟩) (HWs.out.below (zqab _ _)) (zqay HOq.out (zqab _ _)) hown hgrow); have HC9:=zh (zqaj (zqa5 HCC.out (zqab _ _)) (zqay HWs.out.1 (zqab _ _)) (by decide) hgrow); have HB9:=zh (Below.grown (HB5.out.trans ((zqab _ _).mono HB5.out.size)) hgrow (by have:=HB5.out.size; simp; omega) (fun gg hg => (World.ownsRow.lt HWs.out.1 gg hg).1)); obtain ⟨⟨s0,s1,s2,s3⟩,sf⟩:=zqac HC9.out; obtain ⟨pv',cv',rfl⟩:=zqai hown; clear hown hgrow)
      have HC10:=zh (zqb9 (u:=.slice pv' (ps.length + 1) cv') HC9.out);have HZ10:=zh (HZ9.out.setbox (j:=2) (u:=.slice pv' (ps.length + 1) cv') HC9.out (by decide) (by decide))
      have HB10:=zh (HB9.out.setCell (p:=⟨w2.heap.size,2,none⟩) (Nat.le_refl _) (.slice pv' (ps.length + 1) cv'));go_roundw
      case rel => exact ⟨k + 1,_,ps ++ [(.slice pq lz.length cq,⟨z0,z1,lz,z3,z4⟩)],hle.out,by go_num,zh ⟨by simp [HPs.out],HB10.out,HC10.out,HZ10.out,fun j hj => ⟨if e:j < k then (HJl.out j e).1 else by (obtain rfl:j = k:=by omega); rw [HXk.out]; exact HOW.out.1,zq2g HPs.out hj (fun e => (HJl.out j e).2) (fun e => by subst e; rw [HXk.out]; exact HOW.out.2)⟩⟩⟩
      case measure => simp [intOf]; omega
    ·have:k = f.is.length:=by omega
     subst this;obtain ⟨pv,cv,rfl⟩:=zqai HS.out.2.2.2.1.1;have HMn:=zh (show oneE S m f = 0 by rw [HE3.out,if_neg (by rw [zq28 (fun j hj => (HS.out.2.2.2.2 j hj).1)]; decide)])
     have HJW:=zh (fun j (hj:j < f.is.length) => (HS.out.2.2.2.2 j hj).2)
     have HPs:=zh HS.out.1;obtain ⟨-,-,y2⟩:=row3 ((HS.out.2.1.block _ hF2).trans HY2.out);have HV0:=zh (And.intro HS.out.2.1 (And.intro HS.out.2.2.1 HS.out.2.2.2.1));obtain ⟨j0,hj,hy0,hy1,hy2⟩:=info_parts Tryz.infoReal;clear HS hlk hk HE3 HBw;generalize wr = wz at *;go_wp2_with fail;clear y2;go_loopw [65] (fun iv wr => ∃ (k:Nat) (v2:Value) (rs:List (Value × Re)),k ≤ f.ns.length ∧ iv = .int .i64 k ∧ Hid (rs.length = k ∧ Below w2.heap.size w2 wr ∧ wr.heap[w2.heap.size]? = some (.cells (boxV K 1 (.slice pv ps.length cv) v2) 32 (0,0)) ∧ WsOwn wr w2.heap.size (.slice pv ps.length cv) ps ∧ RsOwn wr w2.heap.size v2 rs ∧ ∀ j,j < k → OR (f.ns.getD j 0) (rg (rs.map Prod.snd) j))) (fun iv _ => f.ns.length - (intOf iv).toNat)
     case atStart => exact ⟨0,_,[],Nat.zero_le _,rfl,zh ⟨rfl,HV0.out.1,HV0.out.2.1,HV0.out.2.2,RsOwn.nil _ _,fun j hj => by omega⟩⟩
     case round =>
      obtain ⟨k,v2,rs,hk,rfl,HS⟩:=hrel;obtain ⟨pv2,cv2,rfl⟩:=zqai HS.out.2.2.2.2.1.1;have HBw:=zh (HB2.out.trans (HS.out.2.1.mono HB2.out.size))
      by_cases hlk:k < f.ns.length
      ·have hlk':(k:Int) < (f.ns.length:Int):=by omega
       have hle:Hid (k + 1 ≤ f.ns.length):=zh (by omega)
       obtain ⟨b,off,rfl,-,g0⟩:=fl_at (HFn.out _ HBw.out) hlk;have HOk:=zh (HOr.out k hlk);obtain ⟨x,hx⟩:∃ x,f.ns.getD k 0 = x:=⟨_,rfl⟩
       have HXk:=zh hx;rw [hx] at g0 HOk;have hk0:=(zqac HS.out.2.2.1).1.2.2.2;have HCl:=zh (Array.getElem?_eq_some_iff.1 HS.out.2.2.1).1;have HRl:=zh HS.out.1;clear hx;go_upto_region 19 with fail;have hk:wr.drew.cell? ⟨w2.heap.size,3,none⟩ = some (.slice pv2 rs.length cv2):=hk0;clear g0;refine zqd8 (S:=fun w' => w'.cell? ⟨w2.heap.size,3,none⟩ = some (.slice pv2 rs.length cv2)) 7 (by kernel_rfl) hk (fun _ => ?_)
       refine tkZ 0 69 (.pointer (some ⟨w2.heap.size,3,none⟩)) rfl hk ?_;try simp only [pS]
       refine tkZ 1 70 (.slice pv2 rs.length cv2) rfl hk ?_;try simp only [pS]
       refine tkZ 2 71 (.float .f64 x) rfl hk ?_;try simp only [pS]
       refine zqbs (i:=3) (by kernel_rfl) rfl (fun K' hK => ?_)
       rw [if_pos (by kernel_rfl)]
       go_simp;go_at_call 87;refine (HOk.out _ HBw.out.drew).mono ?_;rintro r w4 ⟨lz,pq,cq,rfl,hb4,hOR,hO⟩;have hb4':=zqed hb4;replace hk:=cell_later hb4' hk0;have HO4:=zh (zqax hO (B':=w2.heap.size) HS.out.2.1.size);have HOR4:=zh hOR;clear hk0 hb4 hO hOR;refine hK.out _ _ hk ?_;try simp only [pS]
       clear hK;refine zqbs (i:=4) (by kernel_rfl) rfl (fun K' hK => ?_)
       rw [if_pos (by kernel_rfl)]
       go_simp;have hb5:=zqab w4 (.cells #[.slice pq lz.length cq,.float .f64 x,.float .f64 x] 74);have hbE:=zqaa hb4' hb5;replace hk:=cell_later hb5 hk;refine hK.out _ _ hk ?_;try simp only [pS]
       clear hK;refine zqbs (i:=5) (by kernel_rfl) rfl (fun K' hK => ?_)
       refine zqbz _ (by rfl) _ _ _ (by rfl) w2.heap.size 74 j0 (.agg #[.slice none 0 0,.float .f64 0,.float .f64 0]) 3 40 Tryz.underlying30 hj hy0 hy1 hy2 zqd9 (by decide) _ rs.length (cellsR rs) (by rfl) (zqay HS.out.2.2.2.2.1.1 hbE) ⟨w4.heap.size,0,none⟩ 1 1 [.slice pq lz.length cq,.float .f64 x,.float .f64 x] (by rfl) (by rfl) (World.news_of_block (heap_alloc_new w4 _)) (by intro u hu; simp at hu; rcases hu with rfl | rfl | rfl <;> rfl) (by have:=HRl.out; have:=HSz.out.2.2.2; unfold maxLen; omega) (by have:=HRl.out; have:=HSz.out.2.2.2; omega) (by have h1:=hbE.size; have h2:=HS.out.2.1.size; omega) ?_
       intro v' w9 hown hgrow;have hRE:=HS.out.2.2.2.2.1.below hbE;have hWE:=HS.out.2.2.2.1.below hbE;have HR9:=zh (RsOwn.push (x:=⟨lz,x,x⟩) hRE (zqay HO4.out hb5) hown hgrow);have HW9:=zh (hWE.apart hRE.1 (by decide) (by decide) hgrow)
       have hCE:=(hbE.block _ HCl.out).trans HS.out.2.2.1;have HC9:=zh (zqaj hCE hRE.1 (by decide) hgrow)
       have HB9:=zh (Below.grown (HS.out.2.1.trans (hbE.mono HS.out.2.1.size)) hgrow (by have h1:=hbE.size; have h2:=HS.out.2.1.size; omega) (fun gg hg => (World.ownsRow.lt HS.out.2.2.2.2.1.1 gg hg).1))
       obtain ⟨⟨s0,s1,s2,s3⟩,sf⟩:=zqac HC9.out;replace hk:=s3;have HJl:=zh HS.out.2.2.2.2.2;clear hWE hRE hCE hbE hb5 hb4' HS;obtain ⟨pv',cv',rfl⟩:=zqai hown;clear hown hgrow;refine hK.out _ _ hk ?_;try simp only [Act.put,List.setIfInBounds_toArray]
       clear hK;refine tkZ 6 75 (.pointer (some ⟨w2.heap.size,3,none⟩)) rfl hk ?_;try simp only [Act.put]
       refine zqg4 (by kernel_rfl) rfl (fun K' hK => ?_)
       rw [if_pos (by kernel_rfl)]
       go_simp;refine hK.out _ _ ?_;try simp only [pS]
       clear hK;refine zqg3 (by kernel_rfl) ?_ _
       have HC12:=zh (zqep (u:=.slice pv' (rs.length + 1) cv') HC9.out);have HW12:=zh (HW9.out.setbox (j:=3) (u:=.slice pv' (rs.length + 1) cv') HC9.out (by decide) (by decide))
       have HR12:=zh (HR9.out.setbox (j:=3) (u:=.slice pv' (rs.length + 1) cv') HC9.out (by decide) (by decide))
       have HB12:=zh (HB9.out.setCell (p:=⟨w2.heap.size,3,none⟩) (Nat.le_refl _) (.slice pv' (rs.length + 1) cv'));generalize w9.setCell ⟨w2.heap.size,3,none⟩ (.slice pv' (rs.length + 1) cv') = w12 at *;clear hk s0 s1 s2 s3 sf;go_wp2_with fail;go_roundw
       case rel => exact ⟨k + 1,_,rs ++ [(.slice pq lz.length cq,⟨lz,x,x⟩)],hle.out,by go_num,zh ⟨by simp [HRl.out],HB12.out,HC12.out,HW12.out,HR12.out,fun j hj => zq2f HRl.out hj (fun e => HJl.out j e) (fun e => by subst e; rw [HXk.out]; exact HOR4.out)⟩⟩
       case measure => simp [intOf]; omega
      ·have:k = f.ns.length:=by omega
       subst this;have hzz:=(HS.out.2.1.block _ hR2).trans HZ2.out;obtain ⟨⟨q0,q1,q2,q3⟩,zf⟩:=zqac hzz;obtain ⟨⟨s0,s1,s2,s3⟩,-⟩:=zqac HS.out.2.2.1;have hS:=zqbg (k':=K) (n':=1) (I':=.slice pv ps.length cv) (N':=.slice pv2 rs.length cv2) hzz;have hB:=zqa2 (R:=w.heap.size + 1 + 1) (k':=K) (n':=1) (I':=.slice pv ps.length cv) (N':=.slice pv2 rs.length cv2) HBw.out (by omega)
       have hW:=zqq4 (k':=K) (n':=1) (I':=.slice pv ps.length cv) (N':=.slice pv2 rs.length cv2) hzz (by decide) (by decide) HS.out.2.2.2.1
       have hR:=zqq3 (k':=K) (n':=1) (I':=.slice pv ps.length cv) (N':=.slice pv2 rs.length cv2) hzz (by decide) (by decide) HS.out.2.2.2.2.1
       unfold set4 at hS hB hW hR;have HS9:=zh hS;have HB9:=zh hB;have HW9:=zh hW;have HR9:=zh hR;have HF:=zh (HOC.out ⟨K,1,ps.map Prod.snd,rs.map Prod.snd⟩ rfl rfl (by simp [HPs.out]) (by simp [HS.out.1]) HJW.out HS.out.2.2.2.2.2)
       clear hS hB hW hR hzz HS hk hlk;go_wp2_with fail;obtain ⟨⟨r0,r1,r2,r3⟩,-⟩:=zqac HS9.out;exact bodyPost_ret (v:=.tuple #[CeV ⟨K,1,ps.map Prod.snd,rs.map Prod.snd⟩ (.slice pv ps.length cv) (.slice pv2 rs.length cv2),.int .i64 0]) (by simp [results,Tryz.results37,go_sem,r0,r1,r2,r3]) rfl ⟨_,_,_,by rw [HMn.out]; rfl,⟨HW9.out.wholes,HR9.out.reals⟩,fun _ => HF.out,fun q => absurd HMn.out q,HB9.out⟩
end Go.Proofs.YtpgchfihedcdkaaGreatDoor
