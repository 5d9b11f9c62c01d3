/- Contracts that the law leans on: Cemo Cemp. -/
import Derived.Deep.AppendLies
import Derived.Deep.RegionHeld3
import Derived.BigQuiet
import Derived.Deep.QuietTactic
import Derived.Lib.ItoaNum
import Derived.OwnWalk
import Derived.Deep.RegionLawGrows
import Derived.Laws.FloatArith
import Derived.WalkLawsBesides
import Derived.Laws.Externs
import Derived.Laws.BitsAllLaws
import Derived.Lib.Hide
import Derived.Shelf.Spec.TrailingZeros
import Derived.Laws.Bits64b
import Derived.Lib.BitFns
import Derived.Lib.Small
import Derived.Lib.Strings
import Derived.Lib.Slices
import Derived.Lib.Walk
import Derived.WalkKit
import Derived.WalkSpells
import Derived.WalkSmall
import Derived.Laws.Bits64
import Derived.Deep.Draws
import Derived.Deep.DeepCutAuto
import Derived.Laws.BytesArg
import Derived.Deep.LoopGhost
import Derived.Deep.RegionLaw
import Derived.Outline
import Derived.Deep.RegionWith
import Derived.RegionTactic
import Derived.ChangeAlike
import Derived.Laws.IdiomStrings
import Derived.ProofKit
import Derived.LaidMore
import Derived.OpenShut
import Derived.Stop.Joined
import Derived.Lib.LaidTab
import Derived.ChangeSlices
import Derived.Deep.CutBlock
import Derived.Deep.RegionHeld
import Derived.Deep.DrawnRows
import Derived.Lib.AppendZeros
import Derived.Maps.OwnSet
import Derived.Below
import Derived.SliceStrings
import Derived.Deep.CutRange
import Derived.Deep.Slices
import Derived.Deep.Fields
import Derived.ChangeSame
import Derived.Lib.SmallJoins
import Derived.Lib.Bytealg
import Derived.Lib.ConvBytes
import Derived.Laws.CopyRow
import Derived.Laws.IdiomCopy
import Derived.Laws.OwnMore
import Derived.Laws.MakeOwn
import Derived.Maps.Ext
import Derived.Maps.RangeWalk
import Derived.Sort.OwnSorted
import Derived.Shelf.SlSortCmp.WholeK
import Derived.Shelf.SlSortCmp.NoneTotal
import Derived.Test.YtmnbljijnbhghaaGreatDoorProg
import Derived.Test.YtmnbljijnbhghaaGreatDoorRows
import Derived.Test.YtmnbljijnbhghaaGreatDoorPr01
import Derived.Test.YtmnbljijnbhghaaGreatDoorPr02
import Derived.Test.YtmnbljijnbhghaaGreatDoorPt01
import Derived.Test.YtmnbljijnbhghaaGreatDoorPt02
import Derived.Test.YtmnbljijnbhghaaGreatDoorPt03
import Derived.Test.YtmnbljijnbhghaaGreatDoorPt04
import Derived.Test.YtmnbljijnbhghaaGreatDoorPt05
import Derived.Test.YtmnbljijnbhghaaGreatDoorPt06
import Derived.Test.YtmnbljijnbhghaaGreatDoorPt07
import Derived.Test.YtmnbljijnbhghaaGreatDoorPt08
import Derived.Test.YtmnbljijnbhghaaGreatDoorPt09
import Derived.Test.YtmnbljijnbhghaaGreatDoorPt10
import Derived.Test.YtmnbljijnbhghaaGreatDoorPt11
import Derived.Test.YtmnbljijnbhghaaGreatDoorPt12
import Derived.Test.YtmnbljijnbhghaaGreatDoorPt13
import Derived.Test.YtmnbljijnbhghaaGreatDoorPt14
import Derived.Test.YtmnbljijnbhghaaGreatDoorPt15
import Derived.Test.YtmnbljijnbhghaaGreatDoorPt16
import Derived.Test.YtmnbljijnbhghaaGreatDoorPt17
import Derived.Test.YtmnbljijnbhghaaGreatDoorPt18
import Derived.Test.YtmnbljijnbhghaaGreatDoorPt19
import Derived.Test.YtmnbljijnbhghaaGreatDoorPt20
import Derived.Test.YtmnbljijnbhghaaGreatDoorPt21
import Derived.Test.YtmnbljijnbhghaaGreatDoorPt22
import Derived.Test.YtmnbljijnbhghaaGreatDoorPt23
import Derived.Test.YtmnbljijnbhghaaGreatDoorPt24
import Derived.Test.YtmnbljijnbhghaaGreatDoorPt25
import Derived.Test.YtmnbljijnbhghaaGreatDoorPt26
import Derived.Test.YtmnbljijnbhghaaGreatDoorPt27
import Derived.Test.YtmnbljijnbhghaaGreatDoorPt28
import Derived.Test.YtmnbljijnbhghaaGreatDoorPt29
import Derived.Test.YtmnbljijnbhghaaGreatDoorPt30
import Derived.Test.YtmnbljijnbhghaaGreatDoorPt31
import Derived.Test.YtmnbljijnbhghaaGreatDoorPt32
import Derived.Test.YtmnbljijnbhghaaGreatDoorPt33
import Derived.Test.YtmnbljijnbhghaaGreatDoorPt34
import Derived.Test.YtmnbljijnbhghaaGreatDoorPt35
namespace Go.Proofs.YtmnbljijnbhghaaGreatDoor
set_option maxRecDepth 100000
open Go.RowKit
set_option linter.unusedVariables false
theorem zxa2 {b a:Int} (b0:0 ≤ b) (b1:b ≤ 4294967295) (a0:0 ≤ a) (h:subM b a = true):b ≤ a:=by
 have h1:=(zqg8 b0 b1).1 h;have e:b.toNat &&& a.toNat = b.toNat:=Nat.eq_of_testBit_eq fun k => by
  rw [Nat.testBit_and,← zqge b0,← zqge a0]
  by_cases q:bitG b k = true
  ·rw [q,h1 k q]; rfl
  ·rw [eq_false_of_ne_true q]; rfl
 have h2:b.toNat &&& a.toNat ≤ a.toNat:=Nat.and_le_right;omega
theorem zxbn {S:Sc} {a b:Int} {c:Ce} (h:rightC S a c = true) (hs:subM b a = true) (a0:0 ≤ a) (b0:0 ≤ b) (b1:b ≤ 4294967295):rightC S b (rkC S a b c) = true:=by
 have hd:=zxan h hs;unfold rightC validC at h ⊢;simp only [Bool.and_eq_true,decide_eq_true_eq] at h ⊢;obtain ⟨⟨h0,h00⟩,⟨⟨⟨⟨h1,h2⟩,h3⟩,h4⟩,h5⟩,h6⟩:=h;have hz:=(zqeb h0).2;have hr:=zqqk (p:=bitG a) (p':=bitG b) (zqdg hz) (fun j _ => (zqg8 b0 b1).1 hs j) c.key
 have hle:=zxa2 b0 b1 a0 hs;refine ⟨⟨h0,by omega⟩,⟨⟨⟨⟨?_,h2⟩,h3⟩,h4⟩,h5⟩,h6⟩
 show downL S a b c.key < keysL S.ds b S.ds.length
 rw [hd,zqh8];exact hr.2
def Qv (S:Sc) (m:Int) (n:Nat) (x:Ce):Prop:=Sv n x ∧ (∀ k,k < x.is.length → Tidy (wg x.is k).sq) ∧ ((∀ k,k < x.is.length → (wg x.is k).sq.length ≤ 7) → rightC S m x = true)
theorem Qv.mono {S:Sc} {m:Int} {n k:Nat} {c:Ce} (h:Qv S m n c) (hk:n ≤ k):Qv S m k c:=⟨h.1.mono hk,h.2⟩
theorem zxa9 {S:Sc} {m:Int} {c:Ce} (h:rightC S m c = true):∀ k,k < c.is.length → Tidy (wg c.is k).sq:=fun k hk => by
 unfold rightC validC at h;simp only [Bool.and_eq_true,decide_eq_true_eq] at h;obtain ⟨-,⟨-,h5⟩,-⟩:=h;have h1:=List.all_eq_true.1 h5 k (by simpa using hk)
 unfold rightW at h1;simp only [Bool.and_eq_true,decide_eq_true_eq] at h1;exact zqlx.1 h1.2
theorem zxav {S:Sc} {m:Int} {c:Ce} (h:rightC S m c = true) (hs:Sv 1 c):Qv S m 1 c:=⟨hs,zxa9 h,fun _ => h⟩
theorem zxbu {S:Sc} {m:Int} {n:Nat} {a b:Ce} (ha:Qv S m n a) (hb:Sv 1 b) (hr:rightC S m b = true) (hn:n ≤ 1000) (e:errJ a b = 0):Qv S m (n + 1) (joinC a b):=by
 have hj:=zqk6 ha.1.1 hb.1 e;obtain ⟨q1,q2,q3,-⟩:=zqfp e;refine ⟨zqzm ha.1 hb hn e,fun k hk => (hj.is k (by rw [← hj.li]; exact hk)).ty,fun hl => ?_⟩
 refine hj.right e ha.1.1 hb.1 (ha.2.2 fun k hk => ?_) hr hl
 have hk2:k < (joinC a b).is.length:=by rw [hj.li]; exact hk
 have h1:=hj.is k hk;have h2:=hl k hk2;have h3:=(zqas h1.wd).2;have h4:=(zqas (hb.1.wg (show k < b.is.length by omega)).sq).1
 refine (ha.2.1 k hk).wlen (ha.1.1.wg hk).sq (n:=7) ?_;have h5:=Nat.pow_le_pow_right (n:=4294967296) (by decide) h2
 have e1:((4294967296 ^ (wg (joinC a b).is k).sq.length:Nat):Int) = 4294967296 ^ (wg (joinC a b).is k).sq.length:=by rw [Int.natCast_pow]; rfl
 have e2:((4294967296 ^ 7:Nat):Int) = 4294967296 ^ 7:=by rw [Int.natCast_pow]; rfl
 have h6:(4294967296:Int) ^ (wg (joinC a b).is k).sq.length ≤ 4294967296 ^ 7:=by rw [← e1,← e2]; exact Int.ofNat_le.2 h5
 have h7:=h1.sq;refine Int.lt_of_lt_of_le ?_ h6;refine Int.lt_of_le_of_lt ?_ h3;omega
theorem zxa5 {S:Sc} {m:Int}:∀ {l:List Ce} {c:Ce} {n:Nat},(∀ x ∈ l,Qv S m n x) → Sv 1 c → rightC S m c = true → 1 ≤ n → n ≤ 1000 → ∀ x ∈ (withL l c).2,Qv S m (n + 1) x
 | [],c,n,_,hc,hr,h1,_,x,hx => by
  obtain rfl:x = c:=by simpa [withL] using hx
  exact (zxav hr hc).mono (by omega)
 | y :: l,c,n,hl,hc,hr,h1,hn,x,hx => by
  have hy:=hl y (List.mem_cons_self ..);have ih:=fun x => zxa5 (l:=l) (c:=c) (n:=n) (fun z hz => hl z (List.mem_cons_of_mem _ hz)) hc hr h1 hn x
  unfold withL at hx
  by_cases q:y.key < c.key
  ·rw [if_pos q] at hx
   by_cases e:(withL l c).1 = 0
   ·rw [if_pos e] at hx;rcases List.mem_cons.1 hx with rfl | hx
    ·exact hy.mono (by omega)
    ·exact ih x hx
   ·rw [if_neg e] at hx; cases hx
  ·rw [if_neg q] at hx
   by_cases q2:y.key = c.key
   ·rw [if_pos q2] at hx
    by_cases e:errJ y c = 0
    ·rw [if_pos e] at hx;rcases List.mem_cons.1 hx with rfl | hx
     ·exact zxbu hy hc hr hn e
     ·exact (hl x (List.mem_cons_of_mem _ hx)).mono (by omega)
    ·rw [if_neg e] at hx; cases hx
   ·rw [if_neg q2] at hx;rcases List.mem_cons.1 hx with rfl | hx
    ·exact (zxav hr hc).mono (by omega)
    ·exact (hl x hx).mono (by omega)
theorem zxa1 {S:Sc} {m:Int}:∀ (l acc:List Ce) (n:Nat),(∀ c ∈ l,Sv 1 c ∧ rightC S m c = true) → (∀ x ∈ acc,Qv S m n x) → 1 ≤ n → n + l.length ≤ 1000 → ∀ x ∈ (foldC acc l).2,Qv S m (n + l.length) x
 | [],acc,n,_,ha,_,_,x,hx => (ha x hx).mono (by simp)
 | c :: l,acc,n,hf,ha,h1,hn,x,hx => by
  simp only [List.length_cons] at hn ⊢;unfold foldC at hx
  by_cases hw:(withL acc c).1 = 0
  ·rw [if_pos hw] at hx;have hc:=hf c (List.mem_cons_self ..);exact (zxa1 l _ (n + 1) (fun g hg => hf g (List.mem_cons_of_mem _ hg)) (zxa5 ha hc.1 hc.2 h1 (by omega)) (by omega) (by omega) x hx).mono (by omega)
  ·rw [if_neg hw] at hx; cases hx
theorem zxas:∀ (l acc:List Ce),¬ (foldC acc l).1 = 0 → (foldC acc l).2 = []
 | [],acc,h => absurd rfl h
 | c :: l,acc,h => by
  unfold foldC at h ⊢
  by_cases h1:(withL acc c).1 = 0
  ·rw [if_pos h1] at h ⊢;exact zxas l _ h
  ·rw [if_neg h1]
theorem zxbi {S:Sc} {a b:Int} {l:List Ce} (h:¬ (rollE S a b l).1 = 0):(rollE S a b l).2 = []:=by
 unfold rollE at h ⊢
 by_cases h1:rightL S a l = true
 ·rw [if_pos h1] at h ⊢
  by_cases h2:subM b a = true
  ·rw [if_pos h2] at h ⊢;exact zxas _ _ h
  ·rw [if_neg h2]
 ·rw [if_neg h1]
def bigB (l:List Ce):Bool:=l.any fun c => c.is.any fun x => decide (7 < x.sq.length)
theorem zxao {S:Sc} {a b:Int} {l:List Ce} (h:(rollE S a b l).1 = 0):rightL S a l = true ∧ subM b a = true ∧ rollE S a b l = foldC [] (l.map (rkC S a b)):=by
 unfold rollE at h ⊢
 by_cases h1:rightL S a l = true
 ·rw [if_pos h1] at h ⊢
  by_cases h2:subM b a = true
  ·rw [if_pos h2] at h ⊢;exact ⟨h1,h2,rfl⟩
  ·rw [if_neg h2] at h; cases h
 ·rw [if_neg h1] at h; cases h
theorem zxar {S:Sc} {a b:Int} {l:List Ce} (hs:∀ c ∈ l,Sv 1 c) (hl:l.length ≤ 900) (a0:0 ≤ a) (b0:0 ≤ b) (b1:b ≤ 4294967295):∀ x ∈ (rollE S a b l).2,Qv S b 1000 x:=by
 by_cases h:(rollE S a b l).1 = 0
 ·obtain ⟨h1,h2,h3⟩:=zxao h;rw [h3];intro x hx;refine (zxa1 _ [] 1 (fun c hc => ?_) (fun x hx => nomatch hx) (by omega) (by rw [List.length_map]; omega) x hx).mono (by rw [List.length_map]; omega)
  obtain ⟨c,hc2,rfl⟩:=List.mem_map.1 hc;obtain ⟨i,hi,rfl⟩:=List.getElem_of_mem hc2;refine ⟨(hs _ hc2).key _ (zqv2 b0 b1),?_⟩;have h4:=(zqfz.1 h1).2.2 i hi;rw [zqat hi] at h4;exact zxbn h4 h2 a0 b0 b1
 ·rw [zxbi h];exact fun x hx => nomatch hx
theorem zxbb {S:Sc} {a b:Int} {l:List Ce} (hs:∀ c ∈ l,Sv 1 c) (hl:l.length ≤ 900) (a0:0 ≤ a) (b0:0 ≤ b) (b1:b ≤ 4294967295) (h:(rollE S a b l).1 = 0) (hb:bigB (rollE S a b l).2 = false):rightL S b (rollE S a b l).2 = true:=by
 have hq:=zxar hs hl a0 b0 b1 (S:=S);obtain ⟨h1,h2,h3⟩:=zxao h;have hr:risingC (rollE S a b l).2:=by
  rw [h3] at h ⊢;exact zxaj _ _ List.Pairwise.nil h
 have h4:=(zqfz.1 h1).1;have h5:=zxa2 b0 b1 a0 h2;refine zqfz.2 ⟨⟨h4.1,by omega⟩,zxba.2 hr,fun i hi => ?_⟩
 rw [zqat hi];refine (hq _ (List.getElem_mem hi)).2.2 fun k hk => ?_
 apply Nat.le_of_not_lt;intro hk7;have:bigB (rollE S a b l).2 = true:=List.any_eq_true.2 ⟨_,List.getElem_mem hi,List.any_eq_true.2 ⟨_,List.getElem_mem hk,decide_eq_true (by rw [zqaq hk] at hk7; exact hk7)⟩⟩
 rw [hb] at this;cases this
theorem zxbv {S:Sc} {a b:Int} {l:List Ce} (hs:∀ c ∈ l,Sv 1 c) (hl:l.length ≤ 900) (a0:0 ≤ a) (b0:0 ≤ b) (b1:b ≤ 4294967295):LsW (rollE S a b l).2:=fun c hc => (zxar hs hl a0 b0 b1 c hc).1.1
end Go.Proofs.YtmnbljijnbhghaaGreatDoor
namespace Go.Proofs.YtmnbljijnbhghaaGreatDoor
set_option maxRecDepth 100000
open Go.RowKit
set_option linter.unusedVariables false
theorem zxbk {l:List Ce} {i k:Nat} (hi:i < l.length) (hk:k < (cg l i).is.length) (h:7 < (wg (cg l i).is k).sq.length):bigB l = true:=by
 rw [zqat hi] at hk h;refine List.any_eq_true.2 ⟨_,List.getElem_mem hi,List.any_eq_true.2 ⟨_,List.getElem_mem hk,decide_eq_true ?_⟩⟩;rw [zqaq hk] at h;exact h
theorem zxbr {l:List Ce} (h:∀ i,i < l.length → ∀ k,k < (cg l i).is.length → ¬ 7 < (wg (cg l i).is k).sq.length):bigB l = false:=by
 cases e:bigB l with
 | false => rfl
 | true =>
  obtain ⟨c,hc,h1⟩:=List.any_eq_true.1 e;obtain ⟨x,hx,h2⟩:=List.any_eq_true.1 h1;obtain ⟨i,hi,rfl⟩:=List.getElem_of_mem hc;obtain ⟨k,hk,rfl⟩:=List.getElem_of_mem hx;have h3:=h i hi k (by rw [zqat hi]; exact hk)
  rw [zqat hi,zqaq hk] at h3;exact absurd (of_decide_eq_true h2) h3
set_option maxHeartbeats 8000000 in
theorem zxbm (w:World) (v:Value) (l:List Ce) (h:Cells w v l) (hs:∀ c ∈ l,c.is.length ≤ 1000) :
  Calls Tryz.prog 29 #[v] w fun e w' => e = .returned (.bool (bigB l)) ∧ w = w':=by
 have HC:=zh h;have HY:=zh (fun i k hi hk h => @zxbk l i k hi hk h)
 have HN:=zh (@zxbr l);have HS:=zh (fun i (hi:i < l.length) => show (cg l i).is.length ≤ 1000 from by rw [zqat hi]; exact hs _ (List.getElem_mem hi))
 obtain ⟨p,cap,rfl,-,hmx,-⟩:=id h;generalize bigB l = R at *;clear h hs;go_enter Tryz.func29,Tryz.ntmps29;go_wp2_with fail;go_loopw [3] (fun iv wr => ∃ i:Nat,i ≤ l.length ∧ iv = .int .i64 i ∧ w = wr ∧ Hid (∀ j,j < i → ∀ k,k < (cg l j).is.length → ¬ 7 < (wg (cg l j).is k).sq.length)) (fun iv _ => l.length - (intOf iv).toNat)
 case atStart => exact ⟨0,Nat.zero_le _,rfl,rfl,zh (fun j hj => by omega)⟩
 case round =>
  obtain ⟨i,hi,rfl,rfl,HJ⟩:=hrel
  by_cases hlt:i < l.length
  ·have hlt':(i:Int) < (l.length:Int):=by omega
   obtain ⟨b,off,rfl,-,I,N,hx⟩:=HC.out.at hlt;have c2:=hx.c2;obtain ⟨⟨q,k1,rfl⟩,-⟩:=hx.m.slices;have HI:=zh hx.m.i;have hle:=HS.out i hlt;have HY2:=zh (fun k hk h7 => HY.out i k hlt hk h7)
   have HJ2:=zh (fun (hn:∀ k,k < (cg l i).is.length → ¬ 7 < (wg (cg l i).is k).sq.length) => show ∀ j,j < i + 1 → ∀ k,k < (cg l j).is.length → ¬ 7 < (wg (cg l j).is k).sq.length from fun j hj => if e:j = i then e ▸ hn else HJ.out j (by omega))
   clear hx HY HJ HS;generalize cg l i = c at *;go_wp2_with fail;generalize decide ((i:Int) < (l.length:Int)) = b8 at *;go_loopw [4] (fun kv wr => ∃ k:Nat,k ≤ c.is.length ∧ kv = .int .i64 k ∧ w = wr ∧ Hid (∀ j,j < k → ¬ 7 < (wg c.is j).sq.length)) (fun kv _ => c.is.length - (intOf kv).toNat)
   case atStart => exact ⟨0,Nat.zero_le _,rfl,rfl,zh (fun j hj => by omega)⟩
   case round =>
    obtain ⟨k,hk,rfl,rfl,HK⟩:=hrel
    by_cases hlk:k < c.is.length
    ·have hlk':(k:Int) < (c.is.length:Int):=by omega
     obtain ⟨b2,off2,q2,rfl,hq⟩:=HI.out.at hlk;have g2:=hq.c2;obtain ⟨qa,qc,rfl,-,-⟩:=hq.s;have hle2:Hid (k + 1 ≤ c.is.length):=zh (by omega)
     clear hq
     by_cases h7:7 < (wg c.is k).sq.length
     ·obtain rfl:=HY2.out k hlk h7;clear HY2 HJ2 HK HN;generalize (wg c.is k).sq.length = sl at *;have h7':(7:Int) < (sl:Int):=by omega
      go_wp2_with fail;go_ret;exact ⟨rfl,rfl⟩
     ·have HK2:=zh (show ∀ j,j < k + 1 → ¬ 7 < (wg c.is j).sq.length from fun j hj => if e:j = k then e ▸ h7 else HK.out j (by omega))
      clear HK;generalize (wg c.is k).sq.length = sl at *;have h7':¬ (7:Int) < (sl:Int):=by omega
      clear h7;go_wp2_with fail;go_roundw
      case rel => exact ⟨k + 1,hle2.out,by go_num,by trivial,HK2⟩
      case measure => simp [intOf]; omega
    ·have hkn:k = c.is.length:=by omega
     subst hkn;have hlk':¬ (c.is.length:Int) < (c.is.length:Int):=by omega
     have HJ3:=zh (HJ2.out HK.out);clear HJ2 HK HY2;go_wp2_with fail;go_roundw
     case rel => exact ⟨i + 1,by omega,by go_num,by trivial,HJ3⟩
     case measure => simp [intOf]; omega
  ·have hin:i = l.length:=by omega
   subst hin;have hlt':¬ (l.length:Int) < (l.length:Int):=by omega
   obtain rfl:=HN.out HJ.out;clear HJ HY HN HS;go_wp2_with fail;go_ret;exact ⟨rfl,rfl⟩
theorem zxag:Tryz.prog.cellsOf 56 = 2 ∧ Tryz.prog.cellsOf 27 = 1:=by
 refine ⟨?_,?_⟩ <;> kernel_rfl
open Go.ChangeShapes Go.WideShapes Go.Deep in
theorem zxbp {H:Type} {enc:TypeId × Value → H} {w:World} {base:Nat} {spare:Nat → Bool} {held:Bool} {r:Reach} {b0:Nat} {v:Value} {d:DataW H} {p:List MemPlace}
  (hv:Value.okWide Tryz.prog w r b0 56 v) (h:DataW.Trod enc Tryz.prog w base spare held 56 v d p) :
  ∃ x y:Int,v = .agg #[.int .u32 x,.int .u32 y] ∧ (0 ≤ x ∧ x ≤ 4294967295) ∧ (0 ≤ y ∧ y ≤ 4294967295):=by
 obtain ⟨cs,rfl,hsz⟩:=zxbd Tryz.underlying56 zxag.1 hv;obtain ⟨fuel,h⟩:=h;obtain ⟨xs,m,-,hx,hlen,hxl,hf⟩:=DataW.trod_array Tryz.underlying56 h;obtain ⟨l⟩:=cs;rw [zxag.2] at hf
 match l,hsz with
 | [c0,c1],_ =>
  match xs,hxl with
  | [y0,y1],_ =>
   have h0:=hf 0 (by decide)
   have h1:=hf 1 (by decide)
   obtain ⟨m0,e0,-,w0⟩:=DataW.trod_int Tryz.underlying27 h0;obtain ⟨m1,e1,-,w1⟩:=DataW.trod_int Tryz.underlying27 h1;cases e0; cases e1
   simp [Lit.wf,IntKind.min,IntKind.max,IntKind.signed,IntKind.bits] at w0 w1;exact ⟨m0,m1,rfl,by omega,by omega⟩
def Box2S (w:World) (N:Nat) (a b:Int):Prop:=w.heap[N]? = some (.cells #[.int .u32 a,.int .u32 b] 56 (0,0))
theorem Box2S.below {w w':World} {N:Nat} {a b:Int} (h:Box2S w N a b) (hb:Below w.heap.size w w'):Box2S w' N a b:=(hb.block N (Array.getElem?_eq_some_iff.1 h).1).trans h
theorem Box2S.reads {w:World} {N:Nat} {a b:Int} (h:Box2S w N a b):w.cell? ⟨N,0,none⟩ = some (.int .u32 a) ∧ w.cell? ⟨N,1,none⟩ = some (.int .u32 b):=by
 unfold Box2S at h;exact ⟨by simp [World.cell?,h],by simp [World.cell?,h]⟩
end Go.Proofs.YtmnbljijnbhghaaGreatDoor
