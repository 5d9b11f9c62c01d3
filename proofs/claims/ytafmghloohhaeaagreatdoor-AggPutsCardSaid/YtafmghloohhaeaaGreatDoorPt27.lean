/- Contracts that the law leans on: Facm Agob Agoc. -/
import Derived.Test.YtafmghloohhaeaaGreatDoorPt02
import Derived.Test.YtafmghloohhaeaaGreatDoorPt20
import Derived.Test.YtafmghloohhaeaaGreatDoorPt25
import Derived.Test.YtafmghloohhaeaaGreatDoorPt26
namespace Go.Proofs.YtafmghloohhaeaaGreatDoor
set_option maxRecDepth 100000
open Go.RowKit
set_option linter.unusedVariables false
theorem zqm4 (w:World) (D I M V C J N:Value) (W:World) (hW:(w.alloc (SchO D I M V)).alloc (FaO C J N) = W) :
  Below w.heap.size w W ∧ Box W w.heap.size D I M V ∧ FBox W (w.heap.size + 1) C J N:=by
 subst hW;have hz:(w.alloc (SchO D I M V)).heap.size = w.heap.size + 1:=by simp
 have k2:=zqwl (w.alloc (SchO D I M V)) C J N;rw [hz] at k2;exact ⟨zqaa (zqab _ _) (zqab _ _),(zqa7 w D I M V).below (zqab _ _),k2⟩
theorem zqh5 {S:Sc} {f:Fa} (h:f.cs.length ≠ S.ds.length ∨ f.is.length ≠ S.is.length ∨ f.ns.length ≠ S.ns.length):((fitsL S f:Nat):Int) = 3:=by
 unfold fitsL; rw [if_pos h]; rfl
theorem zqos {S:Sc} {f:Fa} (h1:f.cs.length = S.ds.length) (h2:f.is.length = S.is.length) (h3:f.ns.length = S.ns.length):fitsL S f = if codB S.ds f.cs = true then 0 else 2:=by
 unfold fitsL; rw [if_neg (by omega)]
theorem zqwn {S:Sc} {f:Fa} (h1:f.cs.length = S.ds.length) (h2:f.is.length = S.is.length) (h3:f.ns.length = S.ns.length) {k:Nat} (hk:k < f.cs.length) (h:codAt S.ds f.cs k = false):((fitsL S f:Nat):Int) = 2:=by
 rw [zqos h1 h2 h3,if_neg (by rw [zqze hk h]; decide)]; rfl
theorem zqsy {S:Sc} {f:Fa} (h1:f.cs.length = S.ds.length) (h2:f.is.length = S.is.length) (h3:f.ns.length = S.ns.length) (h:∀ j,j < f.cs.length → codAt S.ds f.cs j = true):((fitsL S f:Nat):Int) = 0:=by
 rw [zqos h1 h2 h3,if_pos (zqv5 h)]; rfl
theorem zq06 {ds:List (ByteArray × Int)} {cs:List Int} {k:Nat} (h:cs.getD k 0 < 0):codAt ds cs k = false:=by
 unfold codAt; rw [decide_eq_false (by omega)]; rfl
theorem zq05 {ds:List (ByteArray × Int)} {cs:List Int} {k:Nat} (h:dz ds k ≤ cs.getD k 0):codAt ds cs k = false:=by
 unfold codAt; rw [decide_eq_false (p:=cs.getD k 0 < dz ds k) (by omega)]; simp
theorem zq07 {ds:List (ByteArray × Int)} {cs:List Int} {k:Nat} (h0:¬ cs.getD k 0 < 0) (h:¬ dz ds k ≤ cs.getD k 0):codAt ds cs k = true:=by
 unfold codAt; rw [decide_eq_true (by omega),decide_eq_true (p:=cs.getD k 0 < dz ds k) (by omega)]; rfl
theorem zqvm {P:Nat → Prop} {k:Nat} (h:∀ j,j < k → P j) (hk:P k):∀ j,j < k + 1 → P j:=fun j hj => if h0:j < k then h j h0 else by
 have e:j = k:=by omega
 rw [e]; exact hk
set_option maxHeartbeats 8000000 in
theorem zqqy (w:World) (D I M V C J N:Value) (S:Sc) (f:Fa) (h:Sch4 w D I M V S) (h':Fact3 w C J N f) (hf:FaWf f) :
  Calls Tryz.prog 81 #[SchV D I M V,FactV C J N] w fun e w' => e = .returned (.int .i64 (fitsL S f:Nat)) ∧ Below w.heap.size w w':=by
 obtain ⟨W,hW⟩:∃ W,(w.alloc (SchO D I M V)).alloc (FaO C J N) = W:=⟨_,rfl⟩
 obtain ⟨hb,hx,hx'⟩:=zqm4 w D I M V C J N W hW;have HB:=zh hb;have HX:=zh (And.intro hx hx');obtain ⟨⟨a,c,rfl⟩,⟨a2,c2,rfl⟩,⟨a3,c3,rfl⟩,a4,c4,rfl⟩:=h.slices;obtain ⟨⟨b,d,rfl⟩,⟨b2,d2,rfl⟩,b3,d3,rfl⟩:=h'.slices;obtain ⟨x0,x1,x2,x3⟩:=hx.reads;obtain ⟨y0,y1,y2⟩:=hx'.reads
 by_cases n1:f.cs.length = S.ds.length
 ·by_cases n2:f.is.length = S.is.length
  ·by_cases n3:f.ns.length = S.ns.length
   ·obtain ⟨a',cap',e',-,-,h3⟩:=h.d.below hb;injection e' with e1 e2 e3;subst e1 e3;have HC:=zh h3;clear h3 e2;obtain ⟨a',cap',e',-,h3⟩:=h'.c.below hb;injection e' with e1 e2 e3;subst e1 e3;have HC':=zh h3;clear h3 e2;have HY:=zh (fun h => zqsy n1 n2 n3 h)
    have HE:=zh (fun k hk h => zqwn n1 n2 n3 (k:=k) hk h)
    have HQ:=zh n1;have hl:=hf.l.1;rw [n1] at HX y0 hW ⊢;rw [n2] at HX y1 hW ⊢;rw [n3] at HX y2 hW ⊢;rw [n1] at HC' HY hl;clear h h' hb hx hx' hf n1 n2 n3;generalize ((fitsL S f:Nat):Int) = R at *;go_enter Tryz.func81,Tryz.ntmps81;go_wp2_with fail;clear x0 x1 x2 x3 y0 y1 y2 hW;go_loopw [35] (fun i wr => ∃ k:Nat,k ≤ S.ds.length ∧ i = .int .i64 k ∧ Hid (Drawn W wr) ∧ Hid (∀ j,j < k → codAt S.ds f.cs j = true)) (fun i _ => S.ds.length - (intOf i).toNat)
    case atStart => exact ⟨0,Nat.zero_le _,rfl,zh (Drawn.refl _),zh (fun j hj => by omega)⟩
    case round =>
     obtain ⟨k,hk,rfl,HD,HJ⟩:=hrel;obtain ⟨x0,x1,x2,x3⟩:=(HX.out.1.below HD.out.below).reads;obtain ⟨y0,y1,y2⟩:=(HX.out.2.below HD.out.below).reads
     by_cases hlk:k < S.ds.length
     ·have hlk':(k:Int) < (S.ds.length:Int):=by omega
      have HK2:=zh (show k < f.cs.length by rw [HQ.out]; exact hlk)
      rcases HC.out with h3 | ⟨bb,off,rfl,hlt,hc⟩
      ·rw [h3] at hlk; simp at hlk
      rcases HC'.out with h3 | ⟨bb',off',rfl,hlt',hc'⟩
      ·have hn:=HK2.out; rw [h3] at hn; simp at hn
      have hx:=(HD.out.below.cell (p:=⟨bb,off + k * 2 + 1,none⟩) hlt).trans (hc k hlk).2;have hx':=(HD.out.below.cell (p:=⟨bb',off' + k,none⟩) hlt').trans (hc' k hlk);have HN:=zh (fun n => HD.out.next n)
      have HE2:=zh (fun h => HE.out k HK2.out h)
      clear hc hc'
      by_cases c1:f.cs.getD k 0 < 0
      ·have hR:=HE2.out (zq06 c1);subst hR;have e1:decide (f.cs.getD k 0 < 0) = true:=decide_eq_true c1;generalize f.cs.getD k 0 = x at hx' c1 e1;generalize dz S.ds k = z at hx;go_wp2_with fail;go_ret;exact ⟨rfl,zqaa HB.out HD.out.below⟩
      ·by_cases c2:dz S.ds k ≤ f.cs.getD k 0
       ·have hR:=HE2.out (zq05 c2);subst hR;have e1:decide (f.cs.getD k 0 < 0) = false:=decide_eq_false c1;have e2:decide (dz S.ds k ≤ f.cs.getD k 0) = true:=decide_eq_true c2;generalize f.cs.getD k 0 = x at hx' c1 e1 c2 e2;generalize dz S.ds k = z at hx c2 e2;go_wp2_with fail;go_ret;exact ⟨rfl,zqaa HB.out HD.out.below⟩
       ·have HJ2:=zh (zqvm HJ.out (zq07 c1 c2));have e1:decide (f.cs.getD k 0 < 0) = false:=decide_eq_false c1;have e2:decide (dz S.ds k ≤ f.cs.getD k 0) = false:=decide_eq_false c2;generalize f.cs.getD k 0 = x at hx' c1 e1 c2 e2;generalize dz S.ds k = z at hx c2 e2;have HD2:=HD;go_wp2_with fail;go_roundw
        case rel => exact ⟨k + 1,by omega,by go_num,HD2,HJ2⟩
        case measure => simp [intOf]; omega
     ·have hke:k = S.ds.length:=by omega
      subst hke;have hR:=HY.out HJ.out;subst hR;go_wp2_with fail;go_ret;exact ⟨rfl,zqaa HB.out HD.out.below⟩
   ·rw [zqh5 (.inr (.inr n3))];have e1:((f.cs.length:Int) != (S.ds.length:Int)) = false:=by rw [n1]; simp
    have e2:((f.is.length:Int) != (S.is.length:Int)) = false:=by rw [n2]; simp
    have e3:((f.ns.length:Int) != (S.ns.length:Int)) = true:=by simp; omega
    clear h h' hb hx hx' hf n1 n2 n3;go_enter Tryz.func81,Tryz.ntmps81;go_wp2_with fail;go_ret;exact ⟨rfl,HB.out⟩
  ·rw [zqh5 (.inr (.inl n2))];have e1:((f.cs.length:Int) != (S.ds.length:Int)) = false:=by rw [n1]; simp
   have e2:((f.is.length:Int) != (S.is.length:Int)) = true:=by simp; omega
   clear h h' hb hx hx' hf n1 n2;go_enter Tryz.func81,Tryz.ntmps81;go_wp2_with fail;go_ret;exact ⟨rfl,HB.out⟩
 ·rw [zqh5 (.inl n1)];have e1:((f.cs.length:Int) != (S.ds.length:Int)) = true:=by simp; omega
  clear h h' hb hx hx' hf n1;go_enter Tryz.func81,Tryz.ntmps81;go_wp2_with fail;go_ret;exact ⟨rfl,HB.out⟩
set_option maxHeartbeats 4000000 in
theorem zqp5 (w:World) (D I M V C J N:Value) (S:Sc) (f:Fa) (h:Sch4 w D I M V S) (hw:SWf S) (h':Fact3 w C J N f) (hf:FaWf f) :
  Calls Tryz.prog 40 #[SchV D I M V,FactV C J N] w fun e w' => e = .returned (.int .i64 (if checkL S = 0 then (fitsL S f:Nat) else 1)) ∧ Below w.heap.size w w':=by
 obtain ⟨W,hW⟩:∃ W,(w.alloc (SchO D I M V)).alloc (FaO C J N) = W:=⟨_,rfl⟩
 obtain ⟨hb,hx,hx'⟩:=zqm4 w D I M V C J N W hW;have HB:=zh hb;have HX:=zh (And.intro hx hx');have HC:=zh (zqgb W D I M V S (h.below hb) hw);have HF:=zh (fun w1 (hb1:Below W.heap.size W w1) => zqqy w1 D I M V C J N S f (h.below (zqaa hb hb1)) (h'.below (zqaa hb hb1)) hf)
 obtain ⟨⟨a,c,rfl⟩,⟨a2,c2,rfl⟩,⟨a3,c3,rfl⟩,a4,c4,rfl⟩:=h.slices;obtain ⟨⟨b,d,rfl⟩,⟨b2,d2,rfl⟩,b3,d3,rfl⟩:=h'.slices;obtain ⟨x0,x1,x2,x3⟩:=hx.reads;obtain ⟨y0,y1,y2⟩:=hx'.reads
 by_cases hc:checkL S = 0
 ·rw [if_pos hc];rw [hc] at HC;generalize ((fitsL S f:Nat):Int) = R at *;clear h h' hb hx hx' hf hc hw;go_enter Tryz.func40,Tryz.ntmps40;go_wp2_with fail;refine (HC.out).mono ?_; rintro e w1 ⟨rfl,hb1⟩;have HB1:=zh hb1;clear x0 x1 x2 x3 y0 y1 y2 hb1 hW;obtain ⟨x0,x1,x2,x3⟩:=(HX.out.1.below HB1.out).reads;obtain ⟨y0,y1,y2⟩:=(HX.out.2.below HB1.out).reads;go_wp2_with fail;refine (HF.out _ HB1.out).mono ?_; rintro e w2 ⟨rfl,hb2⟩;have HB2:=zh (zqaa HB.out (zqaa HB1.out hb2));clear hb2;go_wp2_with fail;go_ret;exact ⟨rfl,HB2.out⟩
 ·rw [if_neg hc];have hc2:((checkL S:Int) != 0) = true:=by simp; omega
  generalize (checkL S:Int) = ck at *;clear h h' hb hx hx' hf hc hw;go_enter Tryz.func40,Tryz.ntmps40;go_wp2_with fail;refine (HC.out).mono ?_; rintro e w1 ⟨rfl,hb1⟩;have HB1:=zh (zqaa HB.out hb1);clear hb1;go_wp2_with fail;go_ret;exact ⟨rfl,HB1.out⟩
set_option maxRecDepth 100000
open Go.RowKit
set_option linter.unusedVariables false
theorem zqdr {α:Type} {e:α → List Int} {l:List α} {k:Nat} (hk:k < l.length):(l.take (k + 1)).flatMap e = (l.take k).flatMap e ++ e l[k]:=by
 rw [List.take_add_one,List.getElem?_eq_getElem hk,List.flatMap_append];simp
theorem zqb3 {α:Type} {e:α → List Int} {n:Nat} {l:List α} (h:∀ x ∈ l,(e x).length ≤ n):∀ k,((l.take k).flatMap e).length ≤ n * k
 | 0 => by simp
 | k + 1 => by
  have ih:=zqb3 h k
  by_cases hk:k < l.length
  ·rw [zqdr hk,List.length_append];have:=h _ (List.getElem_mem hk);rw [Nat.mul_add,Nat.mul_one]; omega
  ·rw [List.take_of_length_le (by omega)]
   rw [List.take_of_length_le (by omega)] at ih
   exact Nat.le_trans ih (Nat.mul_le_mul_left _ (by omega))
theorem zqgg {α:Type} {e:α → List Int} {n:Nat} {l:List α} (h:∀ x ∈ l,(e x).length ≤ n):(l.flatMap e).length ≤ n * l.length:=by
 have:=zqb3 h l.length
 rwa [List.take_length] at this
theorem zqmz (w:World) (N:Nat) (bs:List Int) (x:Nat) (h:OutB w N bs) (hx:x < 18446744073709551616) (hl:bs.length ≤ 1000000) :
  Calls Tryz.prog 17 #[.pointer (some ⟨N,0,none⟩),.int .u64 x] w (PutB w N (bs ++ encU x)):=by
 obtain ⟨L,h1,rfl⟩:=h;refine (zqxx w N L x hx h1 ?_).mono ?_
 ·have:=(zqa3 hx).2;rw [show catR (encU x :: L) = catR L ++ encU x from rfl,List.length_append];omega
 ·rintro r w' ⟨rfl,h2,h3⟩;exact ⟨rfl,⟨_,h2,rfl⟩,h3⟩
theorem zqgo (w:World) (N:Nat) (bs:List Int) (x:Int) (h:OutB w N bs) (h0:-9223372036854775808 ≤ x) (h1:x ≤ 9223372036854775807) (hl:bs.length ≤ 1000000) :
  Calls Tryz.prog 18 #[.pointer (some ⟨N,0,none⟩),.int .i64 x] w (PutB w N (bs ++ encI x)):=by
 obtain ⟨L,ho,rfl⟩:=h;refine (zqxw w N L x h0 h1 ho ?_).mono ?_
 ·have:=(zqaz h0 h1).2;rw [show catR (encI x :: L) = catR L ++ encI x from rfl,List.length_append];omega
 ·rintro r w' ⟨rfl,h2,h3⟩;exact ⟨rfl,⟨_,h2,rfl⟩,h3⟩
theorem zqt8 (w:World) (N:Nat) (bs:List Int) (x:Nat) (h:OutB w N bs) (hx:W64 x) (hl:bs.length ≤ 1000000) :
  Calls Tryz.prog 21 #[.pointer (some ⟨N,0,none⟩),.float .f64 x] w (PutB w N (bs ++ eN x)):=by
 obtain ⟨L,ho,rfl⟩:=h;have hk:=zqdu hx;refine (zqxv w N L x (keyI x).toNat hx (by omega) ho ?_).mono ?_
 ·rw [show catR (encF (keyI x).toNat :: L) = catR L ++ encF (keyI x).toNat from rfl,List.length_append];unfold encF; rw [zqat];omega
 ·rintro r w' ⟨rfl,h2,h3⟩;exact ⟨rfl,⟨_,h2,rfl⟩,h3⟩
theorem zqkv {S:Sc} {f:Fa} (hc:checkL S = 0) (hf:FaWf f) (h:fitsL S f = 0):(∀ x ∈ f.cs,0 ≤ x ∧ x ≤ 4096) ∧ f.cs.length ≤ 6 ∧ f.is.length ≤ 3 ∧ f.ns.length ≤ 2:=by
 have hn:=zqcf.1 (zqfq hc).1;have h1:=zqot h;have h2:=zqn1 hc hf.i hf.n h;refine ⟨fun x hx => ?_,by omega,by omega,by omega⟩
 obtain ⟨k,hk⟩:=List.getElem?_of_mem hx;have:=h2.c k x hk;omega
set_option maxRecDepth 100000
open Go.RowKit
set_option linter.unusedVariables false
theorem zqum (x:Nat) (w:World) (hx:W64 x):Calls Tryz.prog 25 #[.float .f64 x] w (BytesP w (eN x)):=by
 have hk:=zqdu hx;exact zq1q x (keyI x).toNat w hx (by omega)
theorem zqth {w:World} {k:IntKind} {a:Option Addr} {n cap:Nat} {xs:List Int} {j:Nat} (h:Ints k w (.slice a n cap) xs) (hj:j < xs.length):∃ b off,a = some ⟨b,off,none⟩ ∧ b < w.heap.size ∧ w.cell? ⟨b,off + j,none⟩ = some (.int k (xs.getD j 0)):=by
 obtain ⟨a',cap',e',-,h3⟩:=h;injection e' with e1 e2 e3;subst e1;rcases h3 with h3 | ⟨b,off,rfl,hlt,hc⟩
 ·rw [h3] at hj; simp at hj
 ·exact ⟨b,off,rfl,hlt,hc j hj⟩
theorem fl_at {w:World} {a:Option Addr} {n cap:Nat} {xs:List Nat} {j:Nat} (h:Fls w (.slice a n cap) xs) (hj:j < xs.length):∃ b off,a = some ⟨b,off,none⟩ ∧ b < w.heap.size ∧ w.cell? ⟨b,off + j,none⟩ = some (.float .f64 (xs.getD j 0)):=by
 obtain ⟨a',cap',e',-,h3⟩:=h;injection e' with e1 e2 e3;subst e1;rcases h3 with h3 | ⟨b,off,rfl,hlt,hc⟩
 ·rw [h3] at hj; simp at hj
 ·exact ⟨b,off,rfl,hlt,hc j hj⟩
theorem zqec {α:Type} {P:α → Prop} {l:List α} {d:α} (h:∀ x ∈ l,P x) {k:Nat} (hk:k < l.length):P (l.getD k d):=by
 have e:l.getD k d = l[k]:=by simp [List.getD,hk]
 rw [e]; exact h _ (List.getElem_mem hk)
theorem zqp7 {α:Type} {e:α → List Int} {l:List α} {d:α} {k:Nat} (hk:k < l.length):(l.take (k + 1)).flatMap e = (l.take k).flatMap e ++ e (l.getD k d):=by
 have e1:l.getD k d = l[k]:=by simp [List.getD,hk]
 rw [e1]; exact zqdr hk
set_option maxRecDepth 100000
open Go.RowKit
set_option linter.unusedVariables false
def exT:Sc:=⟨[(⟨#[97]⟩,2)],[⟨#[109]⟩],[],[]⟩
theorem zq1b:SWf exT:=by
 refine ⟨?_,?_,?_,?_⟩
 ·intro d h;simp only [exT,List.mem_cons,List.not_mem_nil,or_false] at h;subst h; decide
 ·intro s h;simp only [exT,List.mem_cons,List.not_mem_nil,or_false] at h;subst h; decide
 ·intro s h; simp [exT] at h
 ·intro v h; simp [exT] at h
theorem zqwi (w:World) (N:Nat) (T:TypeId) (hN:w.heap.size = N):Dims (w.alloc (.cells #[.string ⟨#[97]⟩,.int .i64 2] T)) (.slice (some ⟨N,0,none⟩) 1 1) exT.ds:=by
 subst hN;refine ⟨_,_,rfl,by simp [exT],by simp [exT],.inr ⟨w.heap.size,0,rfl,by simp,fun i hi => ?_⟩⟩
 have h2:i < 1:=hi;obtain rfl:i = 0:=by omega
 exact ⟨by simp [go_sem,dn,exT],by simp [go_sem,dz,exT]⟩
end Go.Proofs.YtafmghloohhaeaaGreatDoor
namespace Go.Proofs.YtafmghloohhaeaaGreatDoor
set_option maxRecDepth 100000
open Go.RowKit
set_option linter.unusedVariables false
def encWh (x:Wh):List Int:=encI x.sum ++ encI x.abs ++ encU x.sq.length ++ x.sq.flatMap eU ++ encI x.mn ++ encI x.mx
def encRe (x:Re):List Int:=encU x.sum.length ++ x.sum ++ eN x.mn ++ eN x.mx
def encC (c:Ce):List Int:=encU c.key.toNat ++ encI c.cnt ++ c.is.flatMap encWh ++ c.ns.flatMap encRe
theorem zqjy {l:List Int} (h:Wd l):∀ x ∈ l,(eU x).length ≤ 9:=fun x hx => by
 have:=h x hx;exact (zqa3 (by omega)).2
theorem zqh2 {x:Wh} (h:WhW x) (hl:x.sq.length ≤ 20):(encWh x).length ≤ 225:=by
 have k:=zqgg (zqjy h.sq);have a1:=(zqaz h.sum.1 h.sum.2).2;have a2:=(zqaz h.abs.1 h.abs.2).2;have a3:=(zqaz h.mn.1 h.mn.2).2;have a4:=(zqaz h.mx.1 h.mx.2).2;have a5:=(zqa3 (x:=x.sq.length) (by omega)).2
 unfold encWh;simp only [List.length_append];omega
theorem zqge (x:Nat):(eN x).length = 8:=by unfold eN encF; rw [zqat]
theorem zqh1 {x:Re} (hl:x.sum.length ≤ 300):(encRe x).length ≤ 325:=by
 have a5:=(zqa3 (x:=x.sum.length) (by omega)).2
 have a6:=zqge x.mn;have a7:=zqge x.mx;unfold encRe;simp only [List.length_append];omega
theorem zq1n (w:World) (N:Nat) (bs:List Int) (v:Value) (l:List Int) (h:OutB w N bs) (hv:Ints .u8 w v l) (hn:l.length ≤ 1000) (hl:bs.length ≤ 1000000) :
  Calls Tryz.prog 20 #[.pointer (some ⟨N,0,none⟩),v] w (PutB w N (bs ++ (encU l.length ++ l))):=by
 obtain ⟨L,ho,rfl⟩:=h;refine (zqxu w N L v l hv (by omega) ho ?_).mono ?_
 ·have:=(zqa3 (x:=l.length) (by omega)).2
  rw [show catR ((encU l.length ++ l) :: L) = catR L ++ (encU l.length ++ l) from rfl];simp only [List.length_append];omega
 ·rintro r w' ⟨rfl,h2,h3⟩;exact ⟨rfl,⟨_,h2,rfl⟩,h3⟩
theorem OutB.lt {w:World} {N:Nat} {bs:List Int} (h:OutB w N bs):N < w.heap.size:=by
 obtain ⟨L,hL,-⟩:=h;exact hL.lt
theorem hold5 {w w':World} {N B:Nat} (hg:w.grownBy w' (some N)) (hne:B ≠ N) {i0 i1 i2 i3 i4:Nat} {v0 v1 v2 v3 v4:Value}
  (h:w.cell? ⟨B,i0,none⟩ = some v0 ∧ w.cell? ⟨B,i1,none⟩ = some v1 ∧ w.cell? ⟨B,i2,none⟩ = some v2 ∧ w.cell? ⟨B,i3,none⟩ = some v3 ∧ w.cell? ⟨B,i4,none⟩ = some v4) :
  w'.cell? ⟨B,i0,none⟩ = some v0 ∧ w'.cell? ⟨B,i1,none⟩ = some v1 ∧ w'.cell? ⟨B,i2,none⟩ = some v2 ∧ w'.cell? ⟨B,i3,none⟩ = some v3 ∧ w'.cell? ⟨B,i4,none⟩ = some v4:=by
 obtain ⟨h0,h1,h2,h3,h4⟩:=h;exact ⟨cell_grown hg h0 hne,cell_grown hg h1 hne,cell_grown hg h2 hne,cell_grown hg h3 hne,cell_grown hg h4 hne⟩
set_option maxHeartbeats 8000000 in
theorem zqx8 (w0 w:World) (N:Nat) (bs:List Int) (x0 x1 x3 x4:Int) (lx:List Int) (p:Option Addr) (c:Nat) (hv:Ints .u32 w0 (.slice p lx.length c) lx) (hw:Below w0.heap.size w0 w) (hN:w0.heap.size ≤ N) (ho:OutB w N bs) (hx:WhW ⟨x0,x1,lx,x3,x4⟩) (hs:lx.length ≤ 20) (hl:bs.length ≤ 900000) :
  Calls Tryz.prog 19 #[.pointer (some ⟨N,0,none⟩),.agg #[.int .i64 x0,.int .i64 x1,.slice p lx.length c,.int .i64 x3,.int .i64 x4]] w (PutB w N (bs ++ encWh ⟨x0,x1,lx,x3,x4⟩)):=by
 have hNlt:=ho.lt;have hb1:=zqab w (.cells #[.int .i64 x0,.int .i64 x1,.slice p lx.length c,.int .i64 x3,.int .i64 x4] 45);have HX:=zh (row5 (heap_alloc_new w (.cells #[.int .i64 x0,.int .i64 x1,.slice p lx.length c,.int .i64 x3,.int .i64 x4] 45)));have HO:=zh (ho.below hb1);have HG:=zh (zqah hb1 (some N));have HB:=zh (fun wr (h:w.grownBy wr (some N)) => below_grown hw h hN)
 have HNe:Hid (w.heap.size ≠ N):=zh (by omega)
 have P0:=zh (fun wr X (h:OutB wr N X) (hl:X.length ≤ 1000000) => zqgo wr N X x0 h hx.sum.1 hx.sum.2 hl)
 have P1:=zh (fun wr X (h:OutB wr N X) (hl:X.length ≤ 1000000) => zqgo wr N X x1 h hx.abs.1 hx.abs.2 hl)
 have P2:=zh (fun wr X (h:OutB wr N X) (hl:X.length ≤ 1000000) => zqmz wr N X lx.length h (by omega) hl)
 have P3:=zh (fun wr X (h:OutB wr N X) (hl:X.length ≤ 1000000) => zqgo wr N X x3 h hx.mn.1 hx.mn.2 hl)
 have P4:=zh (fun wr X (h:OutB wr N X) (hl:X.length ≤ 1000000) => zqgo wr N X x4 h hx.mx.1 hx.mx.2 hl)
 have PT:=zh (fun k (hk:k < lx.length) wr X (h:OutB wr N X) (hl:X.length ≤ 1000000) => show Calls Tryz.prog 17 #[.pointer (some ⟨N,0,none⟩),.int .u64 (lx.getD k 0)] wr (PutB wr N (X ++ eU (lx.getD k 0))) by
  have e:lx.getD k 0 = lx[k]:=by simp [List.getD,hk]
  have hb:=hx.sq _ (List.getElem_mem hk);rw [e];have q:=zqmz wr N X lx[k].toNat h (by omega) hl
  rwa [show ((lx[k].toNat:Nat):Int) = lx[k] by omega] at q)
 have HBk:=zh (fun k (hk:k < lx.length) => show 0 ≤ lx.getD k 0 ∧ lx.getD k 0 ≤ 4294967295 by
  have e:lx.getD k 0 = lx[k]:=by simp [List.getD,hk]
  have hb:=hx.sq _ (List.getElem_mem hk);rw [e]; omega)
 have HLn:=zh (fun k => zqb3 (zqjy hx.sq) k)
 have HNx:=zh (fun k (hk:k < lx.length) => show (lx.take (k + 1)).flatMap eU = (lx.take k).flatMap eU ++ eU (lx.getD k 0) by
  have e:lx.getD k 0 = lx[k]:=by simp [List.getD,hk]
  rw [e]; exact zqdr hk)
 have HE:=zh (show (lx.take lx.length).flatMap eU = lx.flatMap eU by rw [List.take_length])
 have HI:=zh hv;have l0:=(zqaz hx.sum.1 hx.sum.2).2;have l1:=(zqaz hx.abs.1 hx.abs.2).2;have l2:=(zqa3 (x:=lx.length) (by omega)).2
 have l3:=(zqaz hx.mn.1 hx.mn.2).2;have i1:IntKind.u64.wrap (lx.length:Int) = (lx.length:Int):=by rw [IntKind.wrap_u64]; omega
 have HF:=zh (show bs ++ encWh ⟨x0,x1,lx,x3,x4⟩ = bs ++ encI x0 ++ encI x1 ++ encU lx.length ++ lx.flatMap eU ++ encI x3 ++ encI x4 by unfold encWh; simp only [List.append_assoc])
 generalize bs ++ encWh ⟨x0,x1,lx,x3,x4⟩ = FIN at *;generalize encI x0 = E0 at *;generalize encI x1 = E1 at *;generalize encU lx.length = E2 at *;generalize encI x3 = E3 at *;generalize encI x4 = E4 at *;have HL:=zh (And.intro hl (And.intro l0 (And.intro l1 (And.intro l2 (And.intro l3 hs)))));clear hv hw hN ho hx hs hl hNlt hb1 l0 l1 l2 l3;go_enter Tryz.func19,Tryz.ntmps19;go_upto_region 1 with fail;generalize w.alloc (.cells #[.int .i64 x0,.int .i64 x1,.slice p lx.length c,.int .i64 x3,.int .i64 x4] 45) = W at *;obtain ⟨e0,e1,e2,e3,e4⟩:=HX.out;go_wp2_with fail;refine (P0.out _ _ HO.out (by have:=HL.out; omega)).mono ?_; rintro r w1 ⟨rfl,ho,hg⟩
 have HX1:=zh (hold5 hg HNe.out HX.out);have HG1:=zh (zqaf HG.out hg);have HO1:=zh ho;clear e0 e1 e2 e3 e4 ho hg;obtain ⟨e0,e1,e2,e3,e4⟩:=HX1.out;go_wp2_with fail;refine (P1.out _ _ HO1.out (by have:=HL.out; simp only [List.length_append]; omega)).mono ?_; rintro r w2 ⟨rfl,ho,hg⟩
 have HX2:=zh (hold5 hg HNe.out HX1.out);have HG2:=zh (zqaf HG1.out hg);have HO2:=zh ho;clear e0 e1 e2 e3 e4 ho hg;obtain ⟨e0,e1,e2,e3,e4⟩:=HX2.out;go_wp2_with fail;refine (P2.out _ _ HO2.out (by have:=HL.out; simp only [List.length_append]; omega)).mono ?_; rintro r w3 ⟨rfl,ho,hg⟩
 have HX3:=zh (hold5 hg HNe.out HX2.out);have HG3:=zh (zqaf HG2.out hg);have HO3:=zh ho;clear e0 e1 e2 e3 e4 ho hg;obtain ⟨e0,e1,e2,e3,e4⟩:=HX3.out;go_wp2_with fail;clear e0 e1 e2 e3 e4;go_loopw [23] (fun i wr => ∃ k:Nat,k ≤ lx.length ∧ i = .int .i64 k ∧ Hid (OutB wr N (bs ++ E0 ++ E1 ++ E2 ++ (lx.take k).flatMap eU) ∧ w.grownBy wr (some N) ∧ wr.cell? ⟨w.heap.size,0,none⟩ = some (.int .i64 x0) ∧ wr.cell? ⟨w.heap.size,1,none⟩ = some (.int .i64 x1) ∧ wr.cell? ⟨w.heap.size,2,none⟩ = some (.slice p lx.length c) ∧ wr.cell? ⟨w.heap.size,3,none⟩ = some (.int .i64 x3) ∧ wr.cell? ⟨w.heap.size,4,none⟩ = some (.int .i64 x4))) (fun i _ => lx.length - (intOf i).toNat)
 case atStart => exact ⟨0,Nat.zero_le _,rfl,zh ⟨(show bs ++ E0 ++ E1 ++ E2 ++ (lx.take 0).flatMap eU = bs ++ E0 ++ E1 ++ E2 by simp).symm ▸ HO3.out,HG3.out,HX3.out⟩⟩
 case round =>
  obtain ⟨k,hk,rfl,HS⟩:=hrel
  by_cases hlk:k < lx.length
  ·have hlk':(k:Int) < (lx.length:Int):=by omega
   obtain ⟨b,o,rfl,-,g1⟩:=(HI.out.below (HB.out _ HS.out.2.1)).cell (i:=k) hlk;have HTk:=zh (PT.out k hlk wr _ HS.out.1 (by have:=HLn.out k; have:=HL.out; simp only [List.length_append]; omega))
   have HNk:=zh (HNx.out k hlk);have hle:Hid (k + 1 ≤ lx.length):=zh (by omega)
   have h20:lx.length ≤ 20:=by have:=HL.out; omega
   have i2:IntKind.u64.wrap (lx.getD k 0) = lx.getD k 0:=by have:=HBk.out k hlk; rw [IntKind.wrap_u64]; omega
   generalize lx.getD k 0 = y at *;generalize eU y = EY at *;generalize (lx.take k).flatMap eU = q at *;go_wp2_with fail;refine (HTk.out).mono ?_; rintro r w4 ⟨rfl,ho,hg⟩;have HQ:=zh (And.intro ho (And.intro (zqaf HS.out.2.1 hg) (hold5 hg HNe.out HS.out.2.2)));clear ho hg g1;go_wp2_with fail;go_roundw
   case rel => exact ⟨k + 1,hle.out,by go_num,zh ⟨by rw [HNk.out,← List.append_assoc]; exact HQ.out.1,HQ.out.2⟩⟩
   case measure => simp [intOf]; omega
  ·have hke:k = lx.length:=by omega
   subst hke;have hLk:=HLn.out lx.length;have HS2:=HS.out;rw [HE.out] at HS2 hLk;have HS3:=zh HS2;have HLk:=zh hLk;clear HS2 hLk;obtain ⟨e0,e1,e2,e3,e4⟩:=HS3.out.2.2;generalize lx.flatMap eU = EL at *;go_wp2_with fail;refine (P3.out _ _ HS3.out.1 (by have:=HL.out; have:=HLk.out; simp only [List.length_append]; omega)).mono ?_; rintro r w5 ⟨rfl,ho,hg⟩
   have HX5:=zh (hold5 hg HNe.out HS3.out.2.2);have HG5:=zh (zqaf HS3.out.2.1 hg);have HO5:=zh ho;clear e0 e1 e2 e3 e4 ho hg;obtain ⟨e0,e1,e2,e3,e4⟩:=HX5.out;go_wp2_with fail;refine (P4.out _ _ HO5.out (by have:=HL.out; have:=HLk.out; simp only [List.length_append]; omega)).mono ?_; rintro r w6 ⟨rfl,ho,hg⟩
   have HZ:=zh (And.intro (HF.out ▸ ho) (zqaf HG5.out hg));clear ho hg;go_wp2_with fail;go_end0;exact ⟨rfl,HZ.out.1,HZ.out.2⟩
theorem hold3g {w w':World} {N B:Nat} (hg:w.grownBy w' (some N)) (hne:B ≠ N) {i0 i1 i2:Nat} {v0 v1 v2:Value}
  (h:w.cell? ⟨B,i0,none⟩ = some v0 ∧ w.cell? ⟨B,i1,none⟩ = some v1 ∧ w.cell? ⟨B,i2,none⟩ = some v2) :
  w'.cell? ⟨B,i0,none⟩ = some v0 ∧ w'.cell? ⟨B,i1,none⟩ = some v1 ∧ w'.cell? ⟨B,i2,none⟩ = some v2:=by
 obtain ⟨h0,h1,h2⟩:=h;exact ⟨cell_grown hg h0 hne,cell_grown hg h1 hne,cell_grown hg h2 hne⟩
structure Pc (w wr:World) (I N:Value) (c:Ce) (bs:List Int):Prop where
 o:OutB wr (w.heap.size + 1) bs
 b:BoxC wr w.heap.size c I N
 g:Below w.heap.size w wr
theorem Pc.call {w wr w':World} {I N:Value} {c:Ce} {bs bs':List Int} (h:Pc w wr I N c bs) (ho:OutB w' (w.heap.size + 1) bs') (hg:wr.grownBy w' (some (w.heap.size + 1))):Pc w w' I N c bs' :=
 ⟨ho,(hg.block _ (Array.getElem?_eq_some_iff.1 h.b).1 (by simp)).trans h.b,below_grown h.g hg (Nat.le_succ _)⟩
theorem Pc.below {w wr w':World} {I N:Value} {c:Ce} {bs:List Int} (h:Pc w wr I N c bs) (hb:Below wr.heap.size wr w'):Pc w w' I N c bs :=
 ⟨h.o.below hb,h.b.below hb,zqaa h.g hb⟩
theorem zqx4 (w:World) (I N:Value) (c:Ce):Pc w ((w.alloc (CeO c I N)).alloc (.cells #[.pointer none,.int .i64 0,.bool true] 109)) I N c []:=by
 have hb:=zqab (w.alloc (CeO c I N)) (.cells #[.pointer none,.int .i64 0,.bool true] 109);have ho:=zqz8 (w.alloc (CeO c I N));rw [World.size_alloc] at ho;exact ⟨⟨[],ho,rfl⟩,(zqcp w c I N).below hb,zqaa (zqab _ _) hb⟩
theorem zqpi {l:List Wh} {k:Nat} (hk:k < l.length):(l.take (k + 1)).flatMap encWh = (l.take k).flatMap encWh ++ encWh (wg l k):=by
 rw [zqa5 hk]; exact zqdr hk
theorem zqo6 {l:List Re} {k:Nat} (hk:k < l.length):(l.take (k + 1)).flatMap encRe = (l.take k).flatMap encRe ++ encRe (rg l k):=by
 rw [zqax hk]; exact zqdr hk
set_option maxHeartbeats 16000000 in
theorem zqq2 (w:World) (P Q:Value) (c:Ce) (h:CeM w P Q c) (hc:CeW c) (hl:lightC c = true) :
  Calls Tryz.prog 7 #[CeV c P Q] w fun r w' => (∃ u,r = .returned u ∧ BOwn w' w.heap.size u (encC c)) ∧ Below w.heap.size w w':=by
 obtain ⟨m1,m2,m3,m4⟩:=zqdv.1 hl;have HP0:=zh (zqx4 w P Q c);have HI:=zh h.i;have HN:=zh h.n;have HWc:=zh hc;have HM:=zh (And.intro m1 (And.intro m2 (And.intro m3 m4)));have hk0:=hc.key;have hk1:=hc.cnt;have ek:((c.key.toNat:Nat):Int) = c.key:=by omega
 have P0:=zh (fun wr X (h:OutB wr (w.heap.size + 1) X) (hl:X.length ≤ 1000000) => zqmz wr (w.heap.size + 1) X c.key.toNat h (by omega) hl)
 rw [ek] at P0;have P1:=zh (fun wr X (h:OutB wr (w.heap.size + 1) X) (hl:X.length ≤ 1000000) => zqgo wr (w.heap.size + 1) X c.cnt h hk1.1 hk1.2 hl)
 have l0:=(zqa3 (x:=c.key.toNat) (by omega)).2
 have l1:=(zqaz hk1.1 hk1.2).2;have HLw:=zh (fun k => zqb3 (e:=encWh) (n:=225) (l:=c.is) (fun x hx => by
  obtain ⟨i,hi,rfl⟩:=List.getElem_of_mem hx;exact zqh2 (hc.is _ hx) (by have:=m3 i hi; rwa [zqa5 hi] at this)) k)
 have HLr:=zh (fun k => zqb3 (e:=encRe) (n:=325) (l:=c.ns) (fun x hx => by
  obtain ⟨i,hi,rfl⟩:=List.getElem_of_mem hx;exact zqh1 (by have:=m4 i hi; rwa [zqax hi] at this)) k)
 have HEw:=zh (show (c.is.take c.is.length).flatMap encWh = c.is.flatMap encWh by rw [List.take_length])
 have HEr:=zh (show (c.ns.take c.ns.length).flatMap encRe = c.ns.flatMap encRe by rw [List.take_length])
 have HF:=zh (show encC c = encU c.key.toNat ++ encI c.cnt ++ c.is.flatMap encWh ++ c.ns.flatMap encRe from rfl);have HY:=zh (fun w1 N bs (h:OutB w1 N bs) (hl:bs.length ≤ 2000000) => show Calls Tryz.prog 22 #[.pointer (some ⟨N,0,none⟩)] w1 (BytesP w1 bs) by
  obtain ⟨L,h1,rfl⟩:=h;exact zqsi w1 N L h1 hl)
 have HL:=zh (And.intro l0 l1);obtain ⟨⟨p,k1,rfl⟩,p2,k2,rfl⟩:=h.slices;generalize encC c = FIN at *;generalize encU c.key.toNat = E0 at *;generalize encI c.cnt = E1 at *;clear h hc hl m1 m2 m3 m4 hk0 hk1 ek l0 l1;go_enter Tryz.func7,Tryz.ntmps7;go_wp2_with fail;refine (zqqv _).mono ?_; rintro r w2 ⟨rfl,rfl⟩;go_upto_region 2 with fail;generalize (w.alloc (.cells #[.int .u64 c.key,.int .i64 c.cnt,.slice p c.is.length k1,.slice p2 c.ns.length k2] 32)).alloc (.cells #[.pointer none,.int .i64 0,.bool true] 109) = W0 at *;obtain ⟨x0,x1,x2,x3⟩:=HP0.out.b.reads;go_wp2_with fail;refine (P0.out _ _ HP0.out.o (by simp)).mono ?_; rintro r w3 ⟨rfl,ho,hg⟩
 have HP1:=zh (HP0.out.call ho hg);clear ho hg x0 x1 x2 x3;obtain ⟨x0,x1,x2,x3⟩:=HP1.out.b.reads;go_wp2_with fail;refine (P1.out _ _ HP1.out.o (by have:=HL.out; simp only [List.length_append,List.length_nil]; omega)).mono ?_; rintro r w4 ⟨rfl,ho,hg⟩
 have HP2:=zh (HP1.out.call ho hg);clear ho hg x0 x1 x2 x3;obtain ⟨x0,x1,x2,x3⟩:=HP2.out.b.reads;have hmi:c.is.length ≤ 10:=HM.out.1;have hmn:c.ns.length ≤ 10:=HM.out.2.1;go_wp2_with fail;clear x0 x1 x2 x3;go_loopw [20] (fun i wr => ∃ k:Nat,k ≤ c.is.length ∧ i = .int .i64 k ∧ Hid (Pc w wr (.slice p c.is.length k1) (.slice p2 c.ns.length k2) c (E0 ++ E1 ++ (c.is.take k).flatMap encWh))) (fun i _ => c.is.length - (intOf i).toNat)
 case atStart => exact ⟨0,Nat.zero_le _,rfl,zh ((show E0 ++ E1 ++ (c.is.take 0).flatMap encWh = [] ++ E0 ++ E1 by simp).symm ▸ HP2.out)⟩
 case round =>
  obtain ⟨k,hk,rfl,HS⟩:=hrel
  by_cases hlk:k < c.is.length
  ·have hlk':(k:Int) < (c.is.length:Int):=by omega
   obtain ⟨b,o,qv,rfl,hq⟩:=HI.out.at hlk;have hle:Hid (k + 1 ≤ c.is.length):=zh (by omega)
   obtain ⟨f0,f1,f2,f3,f4,-⟩:=hq.below HS.out.g;have hls:(wg c.is k).sq.length ≤ 20:=HM.out.2.2.1 k hlk;have hqs:=hq.s;obtain ⟨pq,cq,rfl,-,-⟩:=hqs;have HPW:=zh (fun wr X (hw:Below w.heap.size w wr) (ho:OutB wr (w.heap.size + 1) X) (hl:X.length ≤ 900000) => show Calls Tryz.prog 19 #[.pointer (some ⟨w.heap.size + 1,0,none⟩),.agg #[.int .i64 (wg c.is k).sum,.int .i64 (wg c.is k).abs,.slice pq (wg c.is k).sq.length cq,.int .i64 (wg c.is k).mn,.int .i64 (wg c.is k).mx]] wr (PutB wr (w.heap.size + 1) (X ++ encWh (wg c.is k))) from zqx8 w wr (w.heap.size + 1) X (wg c.is k).sum (wg c.is k).abs (wg c.is k).mn (wg c.is k).mx (wg c.is k).sq pq cq hq.s hw (Nat.le_succ _) ho (HWc.out.wg hlk) hls hl)
   have HNk:=zh (zqpi hlk);have HLk:=zh (HLw.out k);generalize encWh (wg c.is k) = EW at *;generalize (c.is.take k).flatMap encWh = qq at *;generalize (wg c.is k).sum = y0 at *;generalize (wg c.is k).abs = y1 at *;generalize (wg c.is k).mn = y3 at *;generalize (wg c.is k).mx = y4 at *;generalize (wg c.is k).sq = lx at *;clear hq hls;have HA:=zh (zqab wr (.cells #[.int .i64 y0,.int .i64 y1,.slice pq lx.length cq,.int .i64 y3,.int .i64 y4] 45));have HX5:=zh (row5 (heap_alloc_new wr (.cells #[.int .i64 y0,.int .i64 y1,.slice pq lx.length cq,.int .i64 y3,.int .i64 y4] 45)));obtain ⟨-,-,x2,x3⟩:=HS.out.b.reads;go_upto_region 7 with fail;generalize wr.alloc (.cells #[.int .i64 y0,.int .i64 y1,.slice pq lx.length cq,.int .i64 y3,.int .i64 y4] 45) = W1 at *;have HS1:=zh (HS.out.below HA.out);obtain ⟨e0,e1,e2,e3,e4⟩:=HX5.out;clear f0 f1 f2 f3 f4 x2 x3;go_wp2_with fail;refine (HPW.out _ _ HS1.out.g HS1.out.o (by have:=HL.out; have:=HLk.out; simp only [List.length_append]; omega)).mono ?_; rintro r w5 ⟨rfl,ho,hg⟩
   have HS2:=zh (HS1.out.call ho hg);clear ho hg e0 e1 e2 e3 e4;go_wp2_with fail;go_roundw
   case rel => exact ⟨k + 1,hle.out,by go_num,zh (by rw [HNk.out,← List.append_assoc]; exact HS2.out)⟩
   case measure => simp [intOf]; omega
  ·have hke:k = c.is.length:=by omega
   subst hke;have hS2:=HS.out;have hLk:=HLw.out c.is.length;rw [HEw.out] at hS2 hLk;have HS2:=zh hS2;have HLk:=zh hLk;clear hS2 hLk;generalize c.is.flatMap encWh = EI at *;obtain ⟨x0,x1,x2,x3⟩:=HS2.out.b.reads;go_wp2_with fail;clear x0 x1 x2 x3;go_loopw [31] (fun i wr => ∃ k:Nat,k ≤ c.ns.length ∧ i = .int .i64 k ∧ Hid (Pc w wr (.slice p c.is.length k1) (.slice p2 c.ns.length k2) c (E0 ++ E1 ++ EI ++ (c.ns.take k).flatMap encRe))) (fun i _ => c.ns.length - (intOf i).toNat)
   case atStart => exact ⟨0,Nat.zero_le _,rfl,zh ((show E0 ++ E1 ++ EI ++ (c.ns.take 0).flatMap encRe = E0 ++ E1 ++ EI by simp).symm ▸ HS2.out)⟩
   case round =>
    obtain ⟨k,hk,rfl,HR⟩:=hrel
    by_cases hlk:k < c.ns.length
    ·have hlk':(k:Int) < (c.ns.length:Int):=by omega
     obtain ⟨b,o,qv,rfl,hq⟩:=HN.out.at hlk;have hle:Hid (k + 1 ≤ c.ns.length):=zh (by omega)
     obtain ⟨f0,f1,f2,-⟩:=hq.below HR.out.g;have hls:(rg c.ns k).sum.length ≤ 300:=HM.out.2.2.2 k hlk;have hqs:=hq.s;obtain ⟨pq,cq,rfl,-,-⟩:=hqs;have HQB:=zh (fun wr X (hw:Below w.heap.size w wr) (ho:OutB wr (w.heap.size + 1) X) (hl:X.length ≤ 1000000) => zq1n wr (w.heap.size + 1) X _ _ ho (hq.s.below hw) (by omega) hl)
     have HQ1:=zh (fun wr X (ho:OutB wr (w.heap.size + 1) X) (hl:X.length ≤ 1000000) => zqt8 wr (w.heap.size + 1) X (rg c.ns k).mn ho (HWc.out.rg hlk).mn hl)
     have HQ2:=zh (fun wr X (ho:OutB wr (w.heap.size + 1) X) (hl:X.length ≤ 1000000) => zqt8 wr (w.heap.size + 1) X (rg c.ns k).mx ho (HWc.out.rg hlk).mx hl)
     have HNk:=zh (zqo6 hlk);have HLq:=zh (HLr.out k);have HEe:=zh (show encRe (rg c.ns k) = encU (rg c.ns k).sum.length ++ (rg c.ns k).sum ++ eN (rg c.ns k).mn ++ eN (rg c.ns k).mx from rfl);have HLs:=zh (show (encU (rg c.ns k).sum.length ++ (rg c.ns k).sum).length ≤ 310 ∧ (eN (rg c.ns k).mn).length ≤ 8 by
      have:=(zqa3 (x:=(rg c.ns k).sum.length) (by omega)).2
      rw [zqge]; simp only [List.length_append]; omega)
     generalize encRe (rg c.ns k) = ER at *;generalize encU (rg c.ns k).sum.length ++ (rg c.ns k).sum = EB at *;generalize eN (rg c.ns k).mn = F1 at *;generalize eN (rg c.ns k).mx = F2 at *;generalize (c.ns.take k).flatMap encRe = qq at *;generalize (rg c.ns k).mn = y1 at *;generalize (rg c.ns k).mx = y2 at *;generalize (rg c.ns k).sum = lx at *;clear hq hls;have hsf:=fun (w:World) (a:Addr) (m:Mode) (k:Nat) => zqba (P:=Tryz.prog) (w:=w) (a:=a) (m:=m) k
     have HA:=zh (zqab wr (.cells #[.slice pq lx.length cq,.float .f64 y1,.float .f64 y2] 48));have HX3:=zh (row3 (heap_alloc_new wr (.cells #[.slice pq lx.length cq,.float .f64 y1,.float .f64 y2] 48)));have HNe:Hid (wr.heap.size ≠ w.heap.size + 1):=zh (by have:=HR.out.o.lt; omega)
     obtain ⟨-,-,-,x3⟩:=HR.out.b.reads;go_upto_region 12 with fail;generalize wr.alloc (.cells #[.slice pq lx.length cq,.float .f64 y1,.float .f64 y2] 48) = W1 at *;have HR1:=zh (HR.out.below HA.out);obtain ⟨e0,e1,e2⟩:=HX3.out;clear f0 f1 f2 x3 hsf;go_wp2_with fail;refine (HQB.out _ _ HR1.out.g HR1.out.o (by have:=HL.out; have:=HLk.out; have:=HLq.out; simp only [List.length_append]; omega)).mono ?_; rintro r w5 ⟨rfl,ho,hg⟩
     have HR2:=zh (HR1.out.call ho hg);have HX4:=zh (hold3g hg HNe.out HX3.out);clear ho hg e0 e1 e2;obtain ⟨e0,e1,e2⟩:=HX4.out;go_wp2_with fail;refine (HQ1.out _ _ HR2.out.o (by have:=HL.out; have:=HLk.out; have:=HLq.out; have:=HLs.out; simp only [List.length_append]; omega)).mono ?_; rintro r w6 ⟨rfl,ho,hg⟩
     have HR3:=zh (HR2.out.call ho hg);have HX5:=zh (hold3g hg HNe.out HX4.out);clear ho hg e0 e1 e2;obtain ⟨e0,e1,e2⟩:=HX5.out;go_wp2_with fail;refine (HQ2.out _ _ HR3.out.o (by have:=HL.out; have:=HLk.out; have:=HLq.out; have:=HLs.out; simp only [List.length_append]; omega)).mono ?_; rintro r w7 ⟨rfl,ho,hg⟩
     have HR4:=zh (HR3.out.call ho hg);clear ho hg e0 e1 e2;go_wp2_with fail;go_roundw
     case rel => exact ⟨k + 1,hle.out,by go_num,zh (by rw [HNk.out,HEe.out]; have:=HR4.out; simpa only [List.append_assoc] using this)⟩
     case measure => simp [intOf]; omega
    ·have hke:k = c.ns.length:=by omega
     subst hke;have hR2:=HR.out;have hLq:=HLr.out c.ns.length;rw [HEr.out] at hR2 hLq;rw [← HF.out] at hR2;have HR2:=zh hR2;have HLF:=zh (show FIN.length ≤ 2000000 by have:=HL.out; have:=HLk.out; rw [HF.out]; simp only [List.length_append]; omega)
     clear hR2 hLq;go_wp2_with fail;refine (HY.out _ _ _ HR2.out.o HLF.out).mono ?_; rintro r w8 ⟨⟨v,rfl,ho⟩,hb⟩;have HO:=zh (And.intro ho (zqaa HR2.out.g hb));have hsz:=HR2.out.g.size;clear hb;obtain ⟨pa,pl,pc,rfl⟩:=zqac ho;clear ho;go_wp2_with fail;go_ret;exact ⟨⟨_,rfl,zqbu HO.out.1 (by omega)⟩,HO.out.2⟩
end Go.Proofs.YtafmghloohhaeaaGreatDoor
