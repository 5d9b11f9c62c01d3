/- Contracts that the law leans on: Agga Floi. -/
import Derived.Test.YtafmghloohhaeaaGreatDoorPt02
import Derived.Test.YtafmghloohhaeaaGreatDoorPt06
import Derived.Test.YtafmghloohhaeaaGreatDoorPt07
namespace Go.Proofs.YtafmghloohhaeaaGreatDoor
set_option maxRecDepth 100000
open Go.RowKit
set_option linter.unusedVariables false
structure Wh where
 sum:Int
 abs:Int
 sq:List Int
 mn:Int
 mx:Int
structure Re where
 sum:List Int
 mn:Nat
 mx:Nat
structure Ce where
 key:Int
 cnt:Int
 is:List Wh
 ns:List Re
def wh0:Wh:=⟨0,0,[],0,0⟩
def re0:Re:=⟨[],0,0⟩
def wg (l:List Wh) (i:Nat):Wh:=l.getD i wh0
def rg (l:List Re) (i:Nat):Re:=l.getD i re0
theorem zqa5 {l:List Wh} {i:Nat} (h:i < l.length):wg l i = l[i]:=by simp [wg,List.getD,List.getElem?_eq_getElem h]
theorem zqax {l:List Re} {i:Nat} (h:i < l.length):rg l i = l[i]:=by simp [rg,List.getD,List.getElem?_eq_getElem h]
structure WhAt (w:World) (b o:Nat) (q:Value) (x:Wh):Prop where
 c0:w.cell? ⟨b,o,none⟩ = some (.int .i64 x.sum)
 c1:w.cell? ⟨b,o + 1,none⟩ = some (.int .i64 x.abs)
 c2:w.cell? ⟨b,o + 2,none⟩ = some q
 c3:w.cell? ⟨b,o + 3,none⟩ = some (.int .i64 x.mn)
 c4:w.cell? ⟨b,o + 4,none⟩ = some (.int .i64 x.mx)
 s:Ints .u32 w q x.sq
structure ReAt (w:World) (b o:Nat) (q:Value) (x:Re):Prop where
 c0:w.cell? ⟨b,o,none⟩ = some q
 c1:w.cell? ⟨b,o + 1,none⟩ = some (.float .f64 x.mn)
 c2:w.cell? ⟨b,o + 2,none⟩ = some (.float .f64 x.mx)
 s:Ints .u8 w q x.sum
theorem WhAt.below {w w':World} {b o:Nat} {q:Value} {x:Wh} (h:WhAt w b o q x) (hb:Below w.heap.size w w'):WhAt w' b o q x :=
 ⟨cell_later hb h.c0,cell_later hb h.c1,cell_later hb h.c2,cell_later hb h.c3,cell_later hb h.c4,h.s.below hb⟩
theorem ReAt.below {w w':World} {b o:Nat} {q:Value} {x:Re} (h:ReAt w b o q x) (hb:Below w.heap.size w w'):ReAt w' b o q x :=
 ⟨cell_later hb h.c0,cell_later hb h.c1,cell_later hb h.c2,h.s.below hb⟩
def Wholes (w:World) (v:Value) (l:List Wh):Prop :=
 ∃ a cap,v = .slice a l.length cap ∧ l.length ≤ cap ∧ l.length ≤ 9223372036854775807 ∧ (l = [] ∨ ∃ b off,a = some ⟨b,off,none⟩ ∧ b < w.heap.size ∧ ∀ i,i < l.length → ∃ q,WhAt w b (off + i * 5) q (wg l i))
def Reals (w:World) (v:Value) (l:List Re):Prop :=
 ∃ a cap,v = .slice a l.length cap ∧ l.length ≤ cap ∧ l.length ≤ 9223372036854775807 ∧ (l = [] ∨ ∃ b off,a = some ⟨b,off,none⟩ ∧ b < w.heap.size ∧ ∀ i,i < l.length → ∃ q,ReAt w b (off + i * 3) q (rg l i))
theorem Wholes.below {w w':World} {v:Value} {l:List Wh} (h:Wholes w v l) (hb:Below w.heap.size w w'):Wholes w' v l:=by
 obtain ⟨a,cap,rfl,h1,h2,h3⟩:=h;refine ⟨a,cap,rfl,h1,h2,h3.imp id ?_⟩;rintro ⟨b,off,rfl,hlt,hc⟩;exact ⟨b,off,rfl,Nat.lt_of_lt_of_le hlt hb.size,fun i hi => (hc i hi).imp fun q h => h.below hb⟩
theorem Reals.below {w w':World} {v:Value} {l:List Re} (h:Reals w v l) (hb:Below w.heap.size w w'):Reals w' v l:=by
 obtain ⟨a,cap,rfl,h1,h2,h3⟩:=h;refine ⟨a,cap,rfl,h1,h2,h3.imp id ?_⟩;rintro ⟨b,off,rfl,hlt,hc⟩;exact ⟨b,off,rfl,Nat.lt_of_lt_of_le hlt hb.size,fun i hi => (hc i hi).imp fun q h => h.below hb⟩
theorem Wholes.at {w:World} {a:Option Addr} {n cap:Nat} {l:List Wh} (h:Wholes w (.slice a n cap) l) {i:Nat} (hi:i < l.length):∃ b off q,a = some ⟨b,off,none⟩ ∧ WhAt w b (off + i * 5) q (wg l i):=by
 obtain ⟨a',cap',e,-,-,h3⟩:=h;injection e with e1 e2 e3;subst e1;rcases h3 with h3 | ⟨b,off,rfl,-,hc⟩
 ·rw [h3] at hi; cases hi
 ·obtain ⟨q,hq⟩:=hc i hi; exact ⟨b,off,q,rfl,hq⟩
theorem Reals.at {w:World} {a:Option Addr} {n cap:Nat} {l:List Re} (h:Reals w (.slice a n cap) l) {i:Nat} (hi:i < l.length):∃ b off q,a = some ⟨b,off,none⟩ ∧ ReAt w b (off + i * 3) q (rg l i):=by
 obtain ⟨a',cap',e,-,-,h3⟩:=h;injection e with e1 e2 e3;subst e1;rcases h3 with h3 | ⟨b,off,rfl,-,hc⟩
 ·rw [h3] at hi; cases hi
 ·obtain ⟨q,hq⟩:=hc i hi; exact ⟨b,off,q,rfl,hq⟩
abbrev CeV (c:Ce) (I N:Value):Value:=.agg #[.int .u64 c.key,.int .i64 c.cnt,I,N]
abbrev CeO (c:Ce) (I N:Value):Obj:=.cells #[.int .u64 c.key,.int .i64 c.cnt,I,N] 32
structure CeM (w:World) (I N:Value) (c:Ce):Prop where
 i:Wholes w I c.is
 n:Reals w N c.ns
theorem CeM.below {w w':World} {I N:Value} {c:Ce} (h:CeM w I N c) (hb:Below w.heap.size w w'):CeM w' I N c:=⟨h.i.below hb,h.n.below hb⟩
theorem CeM.slices {w:World} {I N:Value} {c:Ce} (h:CeM w I N c):(∃ a k,I = .slice a c.is.length k) ∧ ∃ a k,N = .slice a c.ns.length k:=by
 obtain ⟨⟨a,k,h1,-⟩,⟨a2,k2,h2,-⟩⟩:=h;exact ⟨⟨a,k,h1⟩,a2,k2,h2⟩
def I64 (x:Int):Prop:=-9223372036854775808 ≤ x ∧ x ≤ 9223372036854775807
structure WhW (x:Wh):Prop where
 sum:I64 x.sum
 abs:I64 x.abs
 sq:∀ z ∈ x.sq,0 ≤ z ∧ z ≤ 4294967295
 len:x.sq.length ≤ 9223372036854775807
 mn:I64 x.mn
 mx:I64 x.mx
structure ReW (x:Re):Prop where
 sum:Bt x.sum
 len:x.sum.length ≤ 9223372036854775807
 mn:W64 x.mn
 mx:W64 x.mx
structure CeW (c:Ce):Prop where
 key:0 ≤ c.key ∧ c.key ≤ 18446744073709551615
 cnt:I64 c.cnt
 is:∀ x ∈ c.is,WhW x
 ns:∀ x ∈ c.ns,ReW x
theorem CeW.wg {c:Ce} (h:CeW c) {i:Nat} (hi:i < c.is.length):WhW (wg c.is i):=by rw [zqa5 hi]; exact h.is _ (List.getElem_mem hi)
theorem CeW.rg {c:Ce} (h:CeW c) {i:Nat} (hi:i < c.ns.length):ReW (rg c.ns i):=by rw [zqax hi]; exact h.ns _ (List.getElem_mem hi)
def BoxC (w:World) (B:Nat) (c:Ce) (I N:Value):Prop:=w.heap[B]? = some (.cells #[.int .u64 c.key,.int .i64 c.cnt,I,N] 32 (0,0))
theorem BoxC.reads {w:World} {B:Nat} {c:Ce} {I N:Value} (h:BoxC w B c I N):w.cell? ⟨B,0,none⟩ = some (.int .u64 c.key) ∧ w.cell? ⟨B,1,none⟩ = some (.int .i64 c.cnt) ∧ w.cell? ⟨B,2,none⟩ = some I ∧ w.cell? ⟨B,3,none⟩ = some N:=by
 unfold BoxC at h;refine ⟨by simp [World.cell?,h],by simp [World.cell?,h],by simp [World.cell?,h],by simp [World.cell?,h]⟩
theorem BoxC.below {w w':World} {B:Nat} {c:Ce} {I N:Value} (h:BoxC w B c I N) (hb:Below w.heap.size w w'):BoxC w' B c I N:=by
 unfold BoxC at *; rw [hb.block B (Array.getElem?_eq_some_iff.1 h).1]; exact h
theorem zqcp (w:World) (c:Ce) (I N:Value):BoxC (w.alloc (CeO c I N)) w.heap.size c I N:=heap_alloc_new w _
def lightC (c:Ce):Bool:=decide (c.is.length ≤ 10) && decide (c.ns.length ≤ 10) && ((List.range c.is.length).all fun k => decide ((wg c.is k).sq.length ≤ 20)) && (List.range c.ns.length).all fun k => decide ((rg c.ns k).sum.length ≤ 300)
theorem zqdv {c:Ce}:lightC c = true ↔ c.is.length ≤ 10 ∧ c.ns.length ≤ 10 ∧ (∀ k,k < c.is.length → (wg c.is k).sq.length ≤ 20) ∧ ∀ k,k < c.ns.length → (rg c.ns k).sum.length ≤ 300:=by
 simp [lightC,and_assoc]
theorem zqxg {c:Ce} (h:¬ (c.is.length ≤ 10 ∧ c.ns.length ≤ 10 ∧ (∀ k,k < c.is.length → (wg c.is k).sq.length ≤ 20) ∧ ∀ k,k < c.ns.length → (rg c.ns k).sum.length ≤ 300)):lightC c = false:=by
 cases e:lightC c with
 | false => rfl
 | true => exact absurd (zqdv.1 e) h
set_option maxHeartbeats 2000000 in
theorem zqre (w:World) (c:Ce) (I N:Value) (h:CeM w I N c) :
  Calls Tryz.prog 5 #[CeV c I N] w fun e w' => e = .returned (.bool (lightC c)) ∧ Below w.heap.size w w':=by
 have HB0:=zh (zqab w (CeO c I N));have HX:=zh (zqcp w c I N);have HI:=zh (h.i.below HB0.out);have HN:=zh (h.n.below HB0.out);obtain ⟨⟨p,k1,rfl⟩,p2,k2,rfl⟩:=h.slices;have HY:=zh (@zqdv c);have HF:=zh (@zqxg c);clear h;generalize lightC c = R at *;go_enter Tryz.func5,Tryz.ntmps5;go_upto_region 1 with fail;generalize w.alloc (CeO c (.slice p c.is.length k1) (.slice p2 c.ns.length k2)) = W at *;obtain ⟨x0,x1,x2,x3⟩:=HX.out.reads
 by_cases h1:10 < c.is.length
 ·have hR:=HF.out (fun q => by omega)
  subst hR;go_wp2_with fail;go_ret;exact ⟨rfl,HB0.out⟩
 ·by_cases h2:10 < c.ns.length
  ·have hR:=HF.out (fun q => by omega)
   subst hR;go_wp2_with fail;go_ret;exact ⟨rfl,HB0.out⟩
  ·have HLn:=zh (And.intro (show c.is.length ≤ 10 by omega) (show c.ns.length ≤ 10 by omega))
   go_wp2_with fail;go_loopw [3] (fun i wr => ∃ k:Nat,k ≤ c.is.length ∧ i = .int .i64 k ∧ W = wr ∧ Hid (∀ j,j < k → (wg c.is j).sq.length ≤ 20)) (fun i _ => c.is.length - (intOf i).toNat)
   case atStart => exact ⟨0,Nat.zero_le _,rfl,rfl,zh (fun j hj => by omega)⟩
   case round =>
    obtain ⟨k,hk,rfl,rfl,HJ⟩:=hrel
    by_cases hlk:k < c.is.length
    ·have hlk':(k:Int) < (c.is.length:Int):=by omega
     obtain ⟨b,off,q,rfl,hq⟩:=HI.out.at hlk;have g2:=hq.c2;obtain ⟨qa,qc,rfl,-,-⟩:=hq.s;have hle:Hid (k + 1 ≤ c.is.length):=zh (by omega)
     clear hq
     by_cases hs:20 < (wg c.is k).sq.length
     ·have hR:=HF.out (fun q => by have:=q.2.2.1 k hlk; omega)
      subst hR;generalize (wg c.is k).sq.length = sl at *;go_wp2_with fail;go_ret;exact ⟨rfl,HB0.out⟩
     ·have HJ2:=zh (show ∀ j,j < k + 1 → (wg c.is j).sq.length ≤ 20 from fun j hj => if e:j = k then by subst e; omega else HJ.out j (by omega))
      generalize (wg c.is k).sq.length = sl at *;go_wp2_with fail;go_roundw
      case rel => exact ⟨k + 1,hle.out,by go_num,by trivial,HJ2⟩
      case measure => simp [intOf]; omega
    ·have:k = c.is.length:=by omega
     subst this;go_wp2_with fail;go_loopw [4] (fun i wr => ∃ k:Nat,k ≤ c.ns.length ∧ i = .int .i64 k ∧ W = wr ∧ Hid (∀ j,j < k → (rg c.ns j).sum.length ≤ 300)) (fun i _ => c.ns.length - (intOf i).toNat)
     case atStart => exact ⟨0,Nat.zero_le _,rfl,rfl,zh (fun j hj => by omega)⟩
     case round =>
      obtain ⟨k,hk,rfl,rfl,HJ3⟩:=hrel
      by_cases hlk:k < c.ns.length
      ·have hlk':(k:Int) < (c.ns.length:Int):=by omega
       obtain ⟨b,off,q,rfl,hq⟩:=HN.out.at hlk;have g0:=hq.c0;obtain ⟨qa,qc,rfl,-,-⟩:=hq.s;have hle:Hid (k + 1 ≤ c.ns.length):=zh (by omega)
       clear hq
       by_cases hs:300 < (rg c.ns k).sum.length
       ·have hR:=HF.out (fun q => by have:=q.2.2.2 k hlk; omega)
        subst hR;generalize (rg c.ns k).sum.length = sl at *;go_wp2_with fail;go_ret;exact ⟨rfl,HB0.out⟩
       ·have HJ2:=zh (show ∀ j,j < k + 1 → (rg c.ns j).sum.length ≤ 300 from fun j hj => if e:j = k then by subst e; omega else HJ3.out j (by omega))
        generalize (rg c.ns k).sum.length = sl at *;go_wp2_with fail;go_roundw
        case rel => exact ⟨k + 1,hle.out,by go_num,by trivial,HJ2⟩
        case measure => simp [intOf]; omega
      ·have:k = c.ns.length:=by omega
       subst this;have hR:R = true:=HY.out.2 ⟨HLn.out.1,HLn.out.2,HJ.out,HJ3.out⟩;subst hR;go_wp2_with fail;go_ret;exact ⟨rfl,HB0.out⟩
end Go.Proofs.YtafmghloohhaeaaGreatDoor
namespace Go.Proofs.YtafmghloohhaeaaGreatDoor
set_option maxRecDepth 100000
open Go.RowKit
set_option linter.unusedVariables false
theorem zqov {x:Nat} (hx:W64 x) (hn:isNaNB x = false) (hz:isZeroB x = false):(FloatKind.f64.format.order x 0 == some .lt) = negB x:=by
 rw [zqi9 (zqan hx hn) (y:=0) ⟨by decide,by decide⟩,zqa4 (x:=0) (by omega)]
 unfold isZeroB at hz;unfold W64 at hx;unfold negB skey;simp only [decide_eq_false_iff_not] at hz;rw [decide_eq_decide]
 by_cases k:x < 9223372036854775808
 ·rw [if_pos k]; omega
 ·rw [if_neg k]; omega
theorem zqdg {x:Nat} (hx:W64 x) (h:kindI x = 1):isNaNB x = false ∧ isInfB x = false ∧ isZeroB x = false ∧ 0 < x % 9223372036854775808 ∧ x % 9223372036854775808 < 9218868437227405312:=by
 unfold kindI at h;cases h1:isNaNB x with
 | true => rw [h1] at h; simp at h
 | false =>
  cases h2:isInfB x with
  | true => rw [h1,h2] at h; simp at h
  | false =>
   cases h3:isZeroB x with
   | true => rw [h1,h2,h3] at h; simp at h
   | false =>
    refine ⟨rfl,rfl,rfl,?_⟩;unfold isNaNB at h1; unfold isInfB at h2; unfold isZeroB at h3;simp only [decide_eq_false_iff_not] at h1 h2 h3;omega
theorem fvc {c:Nat} {q:Int} (h:Canon c q) (hq:q ≤ 971):FV false (rungOf c q) c q:=FV.canon h hq false
theorem zqdh {c:Nat} {q:Int} (h:Canon c q) (hq:q ≤ 971):W64 (rungOf c q) ∧ notNan (rungOf c q):=by
 have:=zqbp h hq;exact ⟨by unfold W64; omega,by omega,by omega⟩
theorem zqc2 {r:Nat} (h0:0 < r) (h1:r < 9218868437227405312):∃ c q,Canon c q ∧ q ≤ 971 ∧ c ≠ 0 ∧ rungOf c q = r:=by
 obtain ⟨c,q,k1,k2,k3,-⟩:=zqfo h1;refine ⟨c,q,k1,k2,?_,k3⟩;rintro rfl;rw [zqce k1] at k3;have:rungOf 0 (-1074) = 0:=by decide
 omega
theorem zqr0 (r:Nat):Ieee.double.word false r = r:=rfl
theorem SameD.add {m c:Nat} {p q:Int} (h:SameD m p c q) (e:Int):SameD m (p + e) c (q + e):=by
 obtain ⟨k,⟨h1,h2⟩ | ⟨h1,h2⟩⟩:=h
 ·exact ⟨k,.inl ⟨by omega,h2⟩⟩
 ·exact ⟨k,.inr ⟨by omega,h2⟩⟩
theorem zqj1 {c:Nat} (h:c < 9007199254740992):c.log2 ≤ 52:=by
 by_cases h0:c = 0
 ·subst h0; simp
 ·have:=(Nat.log2_lt h0 (k:=53)).2 h; omega
def IsSplit (c:Nat) (q:Int) (m:Int) (e:Int):Prop:=0 < m ∧ m % 2 = 1 ∧ SameD m.toNat e c q ∧ m < 9007199254740992
theorem IsSplit.unique {c:Nat} {q m e m' e':Int} (h:IsSplit c q m e) (k:IsSplit c q m' e'):m = m' ∧ e = e':=by
 obtain ⟨h0,h1,h2,-⟩:=h;obtain ⟨k0,k1,k2,-⟩:=k;obtain ⟨a,⟨g1,g2⟩ | ⟨g1,g2⟩⟩:=h2.trans k2.symm
 ·cases a with
  | zero => simp at g1 g2; exact ⟨by omega,by omega⟩
  | succ a => rw [Nat.pow_succ,← Nat.mul_assoc] at g2; omega
 ·cases a with
  | zero => simp at g1 g2; exact ⟨by omega,by omega⟩
  | succ a => rw [Nat.pow_succ,← Nat.mul_assoc] at g2; omega
theorem zqvk:FV false 4611686018427387904 1 1:=⟨4503599627370496,-51,⟨52,.inl ⟨by decide,by decide⟩⟩,⟨by decide,by decide,.inl (by decide)⟩,by decide,by decide⟩
theorem zqtd {c:Nat} {q:Int} (hc:Canon c q) (hq:q ≤ 971) (h1:1 ≤ q):Canon c (q - 1) ∧ floatBits .quo .f64 (rungOf c q) 4611686018427387904 = some (rungOf c (q - 1)):=by
 have h2:Canon c (q - 1):=by
  obtain ⟨a,b,d | d⟩:=hc
  ·exact ⟨a,by omega,.inl d⟩
  ·omega
 exact ⟨h2,zqzs (fvc hc hq) (fvc h2 (by omega))⟩
theorem zqv2 {c:Nat} {q:Int} (hc:Canon c q):4845873199050653696 ≤ rungOf c q ↔ 1 ≤ q:=by
 obtain ⟨a,b,d⟩:=hc;unfold rungOf
 constructor <;> intro <;> omega
def wholeN (c:Nat) (q:Int):Nat:=c / 2 ^ (-q).toNat
theorem zqim (c:Nat) (q:Int):wholeN c q ≤ c:=Nat.div_le_self _ _
theorem zqlq {c:Nat} {q:Int} (hc:Canon c q) (hq:q ≤ 0):floatToIntVal .f64 (rungOf c q) .u64 = some (wholeN c q:Int):=by
 have h1:c * 2 ^ q.toNat = c:=by rw [show q.toNat = 0 by omega]; simp
 refine zq1d hc (by omega) (zqr0 _).symm _ ?_ ?_
 ·rw [h1]; rfl
 ·have:=zqim c q; have:=hc.1; omega
theorem zqws {n:Nat} (h:n < 9007199254740992):∃ d p,Canon d p ∧ p ≤ 0 ∧ SameD n 0 d p ∧ floatOfInt .f64 (n:Int) = rungOf d p:=by
 obtain ⟨d,p,h1,h2,h3⟩:=zqh0 _ n 0 (Nat.le_refl _) h (by omega)
 refine ⟨d,p,h2,h3,h1,zq1e ?_⟩;exact ⟨d,p,h1,h2,by omega,rfl⟩
theorem zqyn {c d:Nat} {q p:Int} (hc:Canon c q) (hd:Canon d p) (h:rungOf c q = rungOf d p):c = d ∧ q = p:=by
 obtain ⟨a1,a2,a3⟩:=hc;obtain ⟨b1,b2,b3⟩:=hd;unfold rungOf at h;omega
theorem zqrt {c:Nat} {q:Int} (hc:Canon c q) (h0:c ≠ 0) (hq:q ≤ 0) :
  (∃ n:Nat,n = wholeN c q ∧ SameD n 0 c q ∧ floatOfInt .f64 (n:Int) = rungOf c q) ∨
  (∃ z,floatOfInt .f64 (wholeN c q:Int) = z ∧ notNan z ∧ z ≠ rungOf c q ∧ z < 9223372036854775808 ∧ ∃ d p,Canon d p ∧ p ≤ 0 ∧ d ≠ 0 ∧ SameD d p c (q + 1) ∧ floatBits .mul .f64 (rungOf c q) 4611686018427387904 = some (rungOf d p)):=by
 have hw:wholeN c q < 9007199254740992:=by have:=zqim c q; have:=hc.1; omega
 obtain ⟨d,p,k1,k2,k3,k4⟩:=zqws hw
 by_cases hs:SameD (wholeN c q) 0 c q
 ·have:=zqcl (k3.symm.trans hs) k1 hc;exact .inl ⟨_,rfl,hs,by rw [k4,this.1,this.2]⟩
 ·have hne:rungOf d p ≠ rungOf c q:=fun e => by
   obtain ⟨rfl,rfl⟩:=zqyn k1 hc e;exact hs k3
  have hr:=zqbp k1 (by omega:p ≤ 971)
  have hlt:q ≤ -1:=by
   by_cases e:q = 0
   ·subst e; exact absurd (by unfold wholeN; simp; exact SameD.refl _ _) hs
   ·omega
  refine .inr ⟨_,k4,(zqdh k1 (by omega)).2,hne,by omega,?_⟩
  obtain ⟨c1,c2,c3⟩:=id hc
  by_cases h52:4503599627370496 ≤ c
  ·have h2:Canon c (q + 1):=⟨c1,by omega,.inl h52⟩
   refine ⟨c,q + 1,h2,by omega,h0,SameD.refl _ _,zqix (fvc hc (by omega)) zqvk ?_⟩
   rw [Nat.mul_one]; exact fvc h2 (by omega)
  ·have hq2:q = -1074:=by omega
   subst hq2;have h2:Canon (c * 2) (-1074):=⟨by omega,by omega,.inr rfl⟩
   have hs2:SameD (c * 2) (-1074) c (-1074 + 1):=⟨1,.inr ⟨by omega,by simp⟩⟩
   refine ⟨c * 2,-1074,h2,by omega,by omega,hs2,zqix (fvc hc (by omega)) zqvk ?_⟩
   rw [Nat.mul_one]; exact (fvc h2 (by omega)).same hs2.symm
set_option maxRecDepth 100000
open Go.RowKit
set_option linter.unusedVariables false
def SplitPost (x c:Nat) (q:Int) (w:World) (e:Ending) (w':World):Prop:=(∃ m k:Int,IsSplit c q m k ∧ e = .returned (.tuple #[.bool (negB x),.int .u64 m,.int .i64 k])) ∧ Drawn w w'
theorem zqg1 {c d:Nat} {q p e:Int} (hc:Canon c q) (hq:q ≤ 971) (h0:c ≠ 0) (hd:d < 9007199254740992) (hp:-1074 ≤ p) (hp2:p ≤ 0) (hs:SameD d (p + e) c q):-1200 ≤ e ∧ e ≤ 2200:=by
 have h1:=hs.log2 h0;have h2:=zqj1 hc.1;have h3:=zqj1 hd;have:=hc.2.1;omega
theorem zqxr {c:Nat} {q z e:Int} (h0:0 < z) (hm:z % 2 = 0) (hs:SameD z.toNat e c q):0 < z / 2 ∧ SameD (z / 2).toNat (e + 1) c q:=by
 refine ⟨by omega,SameD.trans ⟨1,.inl ⟨by omega,by omega⟩⟩ hs⟩
set_option maxHeartbeats 4000000 in
theorem zqrh (x c:Nat) (q:Int) (w:World) (hx:W64 x) (hk:kindI x = 1) (hc:Canon c q) (hq:q ≤ 971) (h0:c ≠ 0) (hr:rungOf c q = x % 9223372036854775808) :
  Calls Tryz.prog 140 #[.float .f64 x] w (SplitPost x c q w):=by
 have hA:=zh (zqb9 x w hx);obtain ⟨g1,g2,g3,g4,g5⟩:=zqdg hx hk;have hL:=zqov hx g1 g3;have hU:=zqka (P:=Tryz.prog) x hx;have hne:(kindI x != 1) = false:=by rw [hk]; rfl
 have hflip:negB x = true → flipN x = rungOf c q:=fun h => by
  unfold negB at h; simp only [decide_eq_true_eq] at h;unfold W64 at hx; unfold flipN;rw [if_neg (by omega)]; omega
 have hsame:negB x = false → x = rungOf c q:=fun h => by
  unfold negB at h; simp at h;omega
 have hC:=zh (And.intro hc (And.intro hq h0));generalize kindI x = K at *;have h53:notNan 4845873199050653696:=⟨by decide,by decide⟩
 have hstart:∃ y0,y0 = rungOf c q:=⟨_,rfl⟩
 unfold SplitPost;generalize hb:negB x = b at *;clear hk hr g1 g2 g3 g4 g5 hc hq h0 hstart;have hH53:=zh h53;clear h53;have hB:(b = true ∧ Hid (flipN x = rungOf c q)) ∨ (b = false ∧ Hid (x = rungOf c q)):=by
  cases b
  ·exact .inr ⟨rfl,zh (hsame rfl)⟩
  ·exact .inl ⟨rfl,zh (hflip rfl)⟩
 clear hflip hsame hb;rcases hB with ⟨rfl,hy⟩ | ⟨rfl,hy⟩
 all_goals
  generalize flipN x = fx at *;go_enter Tryz.func140,Tryz.ntmps140;go_wp2_with fail;refine (hA.out).mono ?_; rintro e w1 ⟨rfl,hd1⟩;have hd1:=zh hd1;go_wp2_with fail;have HL:=zh hL;clear hL hU hA hne;go_loop [5,6] (fun y i => ∃ k:Nat,(k:Int) ≤ max q 0 ∧ (q ≤ 0 → k = 0) ∧ i = .int .i64 k ∧ Hid (Canon c (q - k)) ∧ ∃ Y:Nat,y = .float .f64 Y ∧ Hid (Y = rungOf c (q - k))) (fun _ i => (q - intOf i).toNat)
  case atStart => exact ⟨0,by omega,fun _ => rfl,rfl,zh (by simpa using hC.out.1),_,rfl,zh (by rw [hy.out]; simp)⟩
  case round =>
   obtain ⟨k,hk1,hk2,rfl,hcan,Y,rfl,hY⟩:=hrel;have hq:=hC.out.2.1;have hbig:=zqv2 hcan.out;rw [← hY.out] at hbig;have hnn:notNan Y:=by rw [hY.out]; exact (zqdh hcan.out (by omega)).2
   have hYlt:Y < 9223372036854775808:=by have:=zqbp hcan.out (by omega); rw [← hY.out] at this; omega
   have hgt:=zqmy hnn hH53.out;have heq:=zqc4 hnn hH53.out;rw [zqa4 hYlt,zqa4 (x:=4845873199050653696) (by omega)] at hgt heq
   by_cases hcont:1 ≤ q - k
   ·have hst:=zqtd hcan.out (by omega) hcont
    rw [← hY.out] at hst;have hcan2:=zh hst.1;have hop:∀ t w,(binOp .quo t (.float .f64 Y) (.float .f64 4611686018427387904)).run Tryz.prog w = .ok (.float .f64 (rungOf c (q - k - 1))) w:=fun t w => run_float_arith w .quo t .f64 _ _ _ hst.2
    have hb:=hbig.2 hcont;have hYr:=zh (show rungOf c (q - k - 1) = rungOf c (q - (k + 1:Nat)) by congr 1; omega)
    have hcan3:=zh (show Canon c (q - (k + 1:Nat)) by rw [show q - ((k + 1:Nat):Int) = q - k - 1 by omega]; exact hcan2.out)
    generalize rungOf c (q - k - 1) = Y2 at *;clear hst hbig hcan hY hnn;have hge:((FloatKind.f64.format.order Y 4845873199050653696 == some .gt) = true) ∨ ((FloatKind.f64.format.order Y 4845873199050653696 == some .gt) = false ∧ (FloatKind.f64.format.order Y 4845873199050653696 == some .eq) = true):=by
     rw [hgt,heq]
     by_cases e:(Y:Int) = ((4845873199050653696:Nat):Int)
     ·exact .inr ⟨by simp; omega,by simpa using e⟩
     ·exact .inl (by simp; omega)
    clear hgt heq;rcases hge with hgt | ⟨hgt,heq⟩
    all_goals
     go_wp2_with (simp only [hop]);go_round
     case rel => exact ⟨k + 1,by omega,by omega,by go_num,hcan3,_,rfl,hYr⟩
     case measure => simp [intOf]; omega
   ·have hgt2:(FloatKind.f64.format.order Y 4845873199050653696 == some .gt) = false:=by rw [hgt]; simp; omega
    have heq2:(FloatKind.f64.format.order Y 4845873199050653696 == some .eq) = false:=by rw [heq]; simp; omega
    clear hgt heq hbig;have hrel2:Hid (SameD c (q - k + k) c q):=zh (by rw [show q - (k:Int) + k = q by omega]; exact SameD.refl _ _)
    go_wp2_with fail;clear hgt2 heq2;have hq0:q - k ≤ 0:=by omega
    have hI:=zh (And.intro hcan.out (And.intro hq0 (And.intro hC.out.2.2 hrel2.out)));have hHL:=HL.out;clear hHL hcan hrel2 hnn hcont hk1 hk2 hYlt hq hq0;generalize q - (k:Int) = p0 at *;go_loop [5,6] (fun y i => ∃ (d:Nat) (p e:Int),i = .int .i64 e ∧ Hid (Canon d p ∧ p ≤ 0 ∧ d ≠ 0 ∧ SameD d (p + e) c q) ∧ ∃ Y:Nat,y = .float .f64 Y ∧ Hid (Y = rungOf d p)) (fun _ i => (intOf i + 2000).toNat)
    case atStart => exact ⟨c,p0,k,rfl,hI,_,rfl,hY⟩
    case round =>
     clear hI hY;obtain ⟨d,p,e,rfl,hI,Y,rfl,hY⟩:=hrel;obtain ⟨i1,i2,i3,i4⟩:=hI.out;obtain ⟨b1,b2⟩:=zqg1 hC.out.1 hC.out.2.1 hC.out.2.2 i1.1 i1.2.1 i2 i4;have hcv:=zqlq i1 i2;have hnn:notNan Y:=by rw [hY.out]; exact (zqdh i1 (by omega)).2
     have hYlt:Y < 9223372036854775808:=by have:=zqbp i1 (show p ≤ 971 by omega); rw [← hY.out] at this; omega
     have hwl:wholeN d p < 9007199254740992:=by have:=zqim d p; have:=i1.1; omega
     have hst:=zqrt i1 i3 i2;rw [← hY.out] at hcv hst;have hwh:=zh (show wholeN d p = wholeN d p from rfl);generalize hn:wholeN d p = n at *;have hcv2:∀ w,(convert 46 28 (.float .f64 Y)).run Tryz.prog w = .ok (.int .u64 (n:Int)) w:=fun w => run_convert_float_int w 46 28 .f64 .u64 Y n (by rw [Tryz.underlying46]; rfl) Tryz.underlying28 hcv
     rcases hst with ⟨n',rfl,hs,hfi⟩ | ⟨z,hfi,hz1,hz2,hz3,d2,p2,k1,k2,k3,k4,k5⟩
     ·have hS:=zh (show SameD n' e c q from by
       have:=(hs.add e).trans i4;rw [Int.zero_add] at this; exact this)
      have hne:(FloatKind.f64.format.order Y Y != some .eq) = false:=by rw [zqck (zqc4 hnn hnn)]; simp
      have hpos:0 < n':=by
       rcases Nat.eq_zero_or_pos n' with h | h
       ·exact absurd (hs.zero.1 h) i3
       ·exact h
      clear hwh hn hI hY i1 i2 i3 i4 hs hcv hnn hYlt;go_wp2_with (simp only [hcv2]);clear hne hfi hcv2;go_loop [7,6] (fun m i => ∃ z e:Int,m = .int .u64 z ∧ i = .int .i64 e ∧ 0 < z ∧ z < 9007199254740992 ∧ Hid (SameD z.toNat e c q)) (fun m _ => (intOf m).toNat)
      case atStart => exact ⟨n',e,rfl,rfl,by omega,by omega,by simpa using hS⟩
      case round =>
       clear hS;obtain ⟨z,e,rfl,rfl,z0,z1,hS⟩:=hrel;have hb2:-1200 ≤ e ∧ e ≤ 2200:=zqg1 (d:=z.toNat) (p:=0) hC.out.1 hC.out.2.1 hC.out.2.2 (by omega) (by omega) (by omega) (by rw [Int.zero_add]; exact hS.out)
       obtain ⟨b1,b2⟩:=hb2;have z2:0 ≤ z:=by omega
       by_cases hm:z % 2 = 0
       ·have hst:=zqxr z0 hm hS.out;have hS2:=zh hst.2;have hp:=hst.1;have hm2:(z % 2 == 0) = true:=by rw [hm]; rfl
        clear hst hS hm;go_wp2_with fail;go_round
        case rel => exact ⟨z / 2,e + 1,rfl,rfl,hp,by omega,hS2⟩
        case measure => simp [intOf]; omega
       ·have hm2:(z % 2 == 0) = false:=by simpa using hm
        have hE:=zh (show IsSplit c q z e from ⟨z0,by omega,hS.out,z1⟩)
        have hL:=HL.out;clear hS hm;go_wp2_with fail;go_ret3;exact ⟨⟨z,e,hE.out,rfl⟩,hd1.out⟩
     ·have hI2:=zh (And.intro k1 (And.intro k2 (And.intro k3 (show SameD d2 (p2 + (e - 1)) c q from by
       have:=k4.add (e - 1);rw [show p + 1 + (e - 1) = p + e by omega] at this
       exact this.trans i4))))
      have hop:∀ t w,(binOp .mul t (.float .f64 Y) (.float .f64 4611686018427387904)).run Tryz.prog w = .ok (.float .f64 (rungOf d2 p2)) w:=fun t w => run_float_arith w .mul t .f64 _ _ _ k5
      have hne:(FloatKind.f64.format.order Y z != some .eq) = true:=by
       rw [zqck (zqc4 hnn hz1),zqa4 hYlt,zqa4 hz3]; simp; omega
      have hY2:=zh (show rungOf d2 p2 = rungOf d2 p2 from rfl);generalize hrr:rungOf d2 p2 = R at *;have hY3:Hid (R = rungOf d2 p2):=zh hrr.symm;clear hrr hY2 hwh hn hI hY i1 i2 i3 i4 hcv hnn hYlt k1 k2 k3 k4 k5 hz1 hz2 hz3;go_wp2_with (first | simp only [hcv2] | simp only [hop])
      go_round
      case rel => exact ⟨d2,p2,e - 1,rfl,hI2,_,rfl,hY3⟩
      case measure => simp [intOf]; omega
set_option maxRecDepth 100000
open Go.RowKit
set_option linter.unusedVariables false
theorem IsSplit.ge {c:Nat} {q m e:Int} (h:IsSplit c q m e):q ≤ e:=by
 obtain ⟨h0,h1,⟨a,⟨g1,g2⟩ | ⟨g1,g2⟩⟩,h3⟩:=h
 ·omega
 ·cases a with
  | zero => omega
  | succ a => rw [Nat.pow_succ,← Nat.mul_assoc] at g2; omega
theorem zqho {c:Nat} {q z e:Int} (hc:Canon c q) (hq:q ≤ 971) (h0:c ≠ 0) (hs:SameD z.toNat e c q):e ≤ 1023:=by
 have h1:=hs.log2 h0;have h2:=zqj1 hc.1;omega
set_option maxHeartbeats 4000000 in
theorem zqlc (x:Nat) (w:World) (hx:x ≤ 9218868437227405312) :
  Calls Tryz.prog 98 #[.float .f64 x] w fun e w' => e = .returned (.int .u64 x) ∧ Drawn w w':=by
 have hw:W64 x:=by unfold W64; omega
 have hA:=zh (fun w => zqb9 x w hw)
 have hnan:isNaNB x = false:=by unfold isNaNB; simp; omega
 have hZ:=zqc0 x hw
 by_cases hi:x = 9218868437227405312
 ·have hk:kindI x = 2:=by unfold kindI; rw [hnan,hi]; rfl
  rw [hk] at hA;clear hk hZ hnan hx;subst hi;go_enter Tryz.func98,Tryz.ntmps98;go_wp2_with fail;refine (hA.out _).mono ?_; rintro e w1 ⟨rfl,hd1⟩;go_wp2_with fail;go_ret;exact ⟨rfl,hd1⟩
 ·have hinf:isInfB x = false:=by unfold isInfB; simp; omega
  by_cases hz:x = 0
  ·subst hz;have hk:kindI 0 = 0:=by decide
   have h2:isZeroB 0 = true:=by decide
   rw [hk] at hA;rw [h2] at hZ;clear hk h2 hinf hnan hx hi;go_enter Tryz.func98,Tryz.ntmps98;go_wp2_with fail;refine (hA.out _).mono ?_; rintro e w1 ⟨rfl,hd1⟩;go_wp2_with fail;go_ret;exact ⟨rfl,hd1⟩
  ·have h2:isZeroB x = false:=by unfold isZeroB; simp; omega
   have hk:kindI x = 1:=by unfold kindI; rw [hnan,hinf,h2]; rfl
   obtain ⟨c,q,hc,hq,h0,hr⟩:=zqc2 (r:=x) (by omega) (by omega)
   have HS:=zh (fun w => zqrh x c q w hw hk hc hq h0 (by rw [hr]; omega))
   rw [hk] at hA;rw [h2] at hZ;have hC:=zh (And.intro hc (And.intro hq (And.intro h0 hr)));clear hk h2 hinf hnan hi hz hc hq h0 hr hw;go_enter Tryz.func98,Tryz.ntmps98;go_wp2_with fail;refine (hA.out _).mono ?_; rintro e w1 ⟨rfl,hd1⟩;go_wp2_with fail;refine (HS.out _).mono ?_; rintro e w2 ⟨⟨m,k,hs,rfl⟩,hd2⟩;have hd:=zh (hd1.trans hd2);have hge:=hs.ge;have hmb:=hs.2.2.2;have hm0:=hs.1;have hs1:=zh hs.2.2.1;have hcq:=hC.out.1.2.1;generalize negB x = bb at *;clear hd1 hd2 hA HS hs hZ;go_wp2_with fail;go_loop [4,5] (fun m i => ∃ z e:Int,m = .int .u64 z ∧ i = .int .i64 e ∧ 0 < z ∧ z < 9007199254740992 ∧ -1074 ≤ e ∧ Hid (SameD z.toNat e c q)) (fun _ i => (intOf i + 1074).toNat)
   case atStart => exact ⟨m,k,rfl,rfl,hm0,hmb,by omega,hs1⟩
   case round =>
    clear hs1 hmb hm0 hge hcq;obtain ⟨z,e,rfl,rfl,z0,z1,e0,hS⟩:=hrel;have e1:=zqho hC.out.1 hC.out.2.1 hC.out.2.2.1 hS.out
    by_cases h52:z < 4503599627370496
    ·by_cases he:-1074 < e
     ·have hS2:Hid (SameD (z * 2).toNat (e - 1) c q):=zh (SameD.trans ⟨1,.inr ⟨by omega,by omega⟩⟩ hS.out)
      clear hS;go_wp2_with fail;go_round
      case rel => exact ⟨z * 2,e - 1,rfl,rfl,by omega,by omega,by omega,hS2⟩
      case measure => simp [intOf]; omega
     ·have hE:=zqcl hS.out ⟨by omega,by omega,.inr (by omega)⟩ hC.out.1
      have hE2:Hid (z = (x:Int)):=zh (by
       have:=hC.out.2.2.2; unfold rungOf at this; omega)
      have he2:decide (-1074 < e) = false:=by simpa using he
      clear hE hS;go_wp2_with fail;go_ret;exact ⟨zqar hE2.out,hd.out⟩
    ·have hE:=zqcl hS.out ⟨by omega,by omega,.inl (by omega)⟩ hC.out.1
     have hE2:Hid ((e + 1074) * 4503599627370496 + z = (x:Int)):=zh (by
      have:=hC.out.2.2.2; unfold rungOf at this; omega)
     have he3:e ≤ 971:=by have:=hC.out.2.1; omega
     clear hE hS;go_wp2_with fail;go_ret;exact ⟨zqar hE2.out,hd.out⟩
set_option maxHeartbeats 1000000 in
theorem zqyk (x:Nat) (w:World) (hx:W64 x) :
  Calls Tryz.prog 55 #[.float .f64 x] w fun e w' => e = .returned (.int .u64 (keyI x)) ∧ Drawn w w':=by
 have hA:=zh (zqb9 x w hx);have hB:=zh (fun w => zqc5 x w hx)
 have kx:=zqdf x;have hU:=zqka (P:=Tryz.prog) x hx;rcases zqbs hx with ⟨h1,h2⟩ | ⟨h1,h2,h3,h4,h5,h6,h7⟩ | ⟨h1,h2,h3,h4,h5,h6⟩
 ·rw [h1] at kx;rw [h2];generalize kindI x = K at *;clear h1 h2;go_enter Tryz.func55,Tryz.ntmps55;go_wp2_with fail;refine (hA.out).mono ?_; rintro e w1 ⟨rfl,hd1⟩;go_wp2_with fail;go_ret;exact ⟨rfl,hd1⟩
 ·rw [h1] at kx;rw [h6];rw [h3] at hB;have hf:flipN x = x - 9223372036854775808:=by unfold flipN; rw [if_neg (by omega)]
  rw [hf] at hU;have hR:=zh (fun w => zqlc (x - 9223372036854775808) w (by omega))
  have hcst:((x - 9223372036854775808:Nat):Int) = (x:Int) - 9223372036854775808:=by omega
  have hb1:(0:Int) ≤ (x:Int) - 9223372036854775808:=by omega
  have hb2:(x:Int) - 9223372036854775808 ≤ 9218868437227405312:=by omega
  rw [hcst] at hR;have hE:Hid ((9223372036854775807:Int) - ((x:Int) - 9223372036854775808) = 18446744073709551615 - x):=zh (by omega)
  generalize x - 9223372036854775808 = X at *;generalize (x:Int) - 9223372036854775808 = Y at *;generalize kindI x = K at *;clear h1 h2 h3 h4 h5 h6 h7 hf hcst;go_enter Tryz.func55,Tryz.ntmps55;go_wp2_with fail;refine (hA.out).mono ?_; rintro e w1 ⟨rfl,hd1⟩;go_wp2_with fail;refine (hB.out _).mono ?_; rintro e w2 ⟨rfl,rfl⟩;go_wp2_with fail;refine (hR.out _).mono ?_; rintro e w3 ⟨rfl,hd2⟩;go_wp2_with fail;go_ret;exact ⟨zqar hE.out,hd1.trans hd2⟩
 ·rw [h1] at kx;rw [h5];rw [h3] at hB;have hR:=zh (fun w => zqlc x w h4)
  have hb1:(0:Int) ≤ (x:Int):=by omega
  have hb2:(x:Int) ≤ 9218868437227405312:=by omega
  generalize kindI x = K at *;clear h1 h2 h3 h4 h5 h6 hU;go_enter Tryz.func55,Tryz.ntmps55;go_wp2_with fail;refine (hA.out).mono ?_; rintro e w1 ⟨rfl,hd1⟩;go_wp2_with fail;refine (hB.out _).mono ?_; rintro e w2 ⟨rfl,rfl⟩;go_wp2_with fail;refine (hR.out _).mono ?_; rintro e w3 ⟨rfl,hd2⟩;go_wp2_with fail;go_ret;exact ⟨zqar (Int.add_comm _ _),hd1.trans hd2⟩
end Go.Proofs.YtafmghloohhaeaaGreatDoor
