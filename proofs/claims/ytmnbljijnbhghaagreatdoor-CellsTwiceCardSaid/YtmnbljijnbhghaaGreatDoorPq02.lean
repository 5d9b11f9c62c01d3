/- Contracts that the law leans on: Cemo Cems Cemt Cemu. -/
import Derived.Deep.AppendLies
import Derived.Deep.RegionHeld3
import Derived.BigQuiet
import Derived.Deep.QuietTactic
import Derived.Lib.ItoaNum
import Derived.OwnWalk
import Derived.Deep.RegionLawGrows
import Derived.Laws.FloatArith
import Derived.WalkLawsBesides
import Derived.Laws.Externs
import Derived.Laws.BitsAllLaws
import Derived.Lib.Hide
import Derived.Shelf.Spec.TrailingZeros
import Derived.Laws.Bits64b
import Derived.Lib.BitFns
import Derived.Lib.Small
import Derived.Lib.Strings
import Derived.Lib.Slices
import Derived.Lib.Walk
import Derived.WalkKit
import Derived.WalkSpells
import Derived.WalkSmall
import Derived.Laws.Bits64
import Derived.Deep.Draws
import Derived.Deep.DeepCutAuto
import Derived.Laws.BytesArg
import Derived.Deep.LoopGhost
import Derived.Deep.RegionLaw
import Derived.Outline
import Derived.Deep.RegionWith
import Derived.RegionTactic
import Derived.ChangeAlike
import Derived.Laws.IdiomStrings
import Derived.ProofKit
import Derived.LaidMore
import Derived.OpenShut
import Derived.Stop.Joined
import Derived.Lib.LaidTab
import Derived.ChangeSlices
import Derived.Deep.CutBlock
import Derived.Deep.RegionHeld
import Derived.Deep.DrawnRows
import Derived.Lib.AppendZeros
import Derived.Maps.OwnSet
import Derived.Below
import Derived.SliceStrings
import Derived.Deep.CutRange
import Derived.Deep.Slices
import Derived.Deep.Fields
import Derived.ChangeSame
import Derived.Lib.SmallJoins
import Derived.Lib.Bytealg
import Derived.Lib.ConvBytes
import Derived.Laws.CopyRow
import Derived.Laws.IdiomCopy
import Derived.Laws.OwnMore
import Derived.Laws.MakeOwn
import Derived.Maps.Ext
import Derived.Maps.RangeWalk
import Derived.Sort.OwnSorted
import Derived.Shelf.SlSortCmp.WholeK
import Derived.Shelf.SlSortCmp.NoneTotal
import Derived.Test.YtmnbljijnbhghaaGreatDoorProg
import Derived.Test.YtmnbljijnbhghaaGreatDoorRows
import Derived.Test.YtmnbljijnbhghaaGreatDoorPq01
import Derived.Test.YtmnbljijnbhghaaGreatDoorPt01
import Derived.Test.YtmnbljijnbhghaaGreatDoorPt02
import Derived.Test.YtmnbljijnbhghaaGreatDoorPt03
import Derived.Test.YtmnbljijnbhghaaGreatDoorPt04
import Derived.Test.YtmnbljijnbhghaaGreatDoorPt05
import Derived.Test.YtmnbljijnbhghaaGreatDoorPt06
import Derived.Test.YtmnbljijnbhghaaGreatDoorPt07
import Derived.Test.YtmnbljijnbhghaaGreatDoorPt08
import Derived.Test.YtmnbljijnbhghaaGreatDoorPt09
import Derived.Test.YtmnbljijnbhghaaGreatDoorPt10
import Derived.Test.YtmnbljijnbhghaaGreatDoorPt11
import Derived.Test.YtmnbljijnbhghaaGreatDoorPt12
import Derived.Test.YtmnbljijnbhghaaGreatDoorPt13
import Derived.Test.YtmnbljijnbhghaaGreatDoorPt14
import Derived.Test.YtmnbljijnbhghaaGreatDoorPt15
import Derived.Test.YtmnbljijnbhghaaGreatDoorPt16
import Derived.Test.YtmnbljijnbhghaaGreatDoorPt17
import Derived.Test.YtmnbljijnbhghaaGreatDoorPt18
import Derived.Test.YtmnbljijnbhghaaGreatDoorPt19
import Derived.Test.YtmnbljijnbhghaaGreatDoorPt20
import Derived.Test.YtmnbljijnbhghaaGreatDoorPt21
import Derived.Test.YtmnbljijnbhghaaGreatDoorPt22
import Derived.Test.YtmnbljijnbhghaaGreatDoorPt23
import Derived.Test.YtmnbljijnbhghaaGreatDoorPt24
import Derived.Test.YtmnbljijnbhghaaGreatDoorPt25
import Derived.Test.YtmnbljijnbhghaaGreatDoorPt26
import Derived.Test.YtmnbljijnbhghaaGreatDoorPt27
import Derived.Test.YtmnbljijnbhghaaGreatDoorPt28
import Derived.Test.YtmnbljijnbhghaaGreatDoorPt29
import Derived.Test.YtmnbljijnbhghaaGreatDoorPt30
import Derived.Test.YtmnbljijnbhghaaGreatDoorPt31
import Derived.Test.YtmnbljijnbhghaaGreatDoorPt32
import Derived.Test.YtmnbljijnbhghaaGreatDoorPt33
namespace Go.Proofs.YtmnbljijnbhghaaGreatDoor
set_option maxRecDepth 100000
open Go.RowKit
set_option linter.unusedVariables false
theorem zxa1 {b a:Int} (b0:0 ≤ b) (b1:b ≤ 4294967295) (a0:0 ≤ a) (h:subM b a = true):b ≤ a:=by
 have h1:=(zqg8 b0 b1).1 h;have e:b.toNat &&& a.toNat = b.toNat:=Nat.eq_of_testBit_eq fun k => by
  rw [Nat.testBit_and,← zqge b0,← zqge a0]
  by_cases q:bitG b k = true
  ·rw [q,h1 k q]; rfl
  ·rw [eq_false_of_ne_true q]; rfl
 have h2:b.toNat &&& a.toNat ≤ a.toNat:=Nat.and_le_right;omega
theorem zxbb {S:Sc} {a b:Int} {c:Ce} (h:rightC S a c = true) (hs:subM b a = true) (a0:0 ≤ a) (b0:0 ≤ b) (b1:b ≤ 4294967295):rightC S b (rkC S a b c) = true:=by
 have hd:=zxae h hs;unfold rightC validC at h ⊢;simp only [Bool.and_eq_true,decide_eq_true_eq] at h ⊢;obtain ⟨⟨h0,h00⟩,⟨⟨⟨⟨h1,h2⟩,h3⟩,h4⟩,h5⟩,h6⟩:=h;have hz:=(zqeb h0).2;have hr:=zqqk (p:=bitG a) (p':=bitG b) (zqdg hz) (fun j _ => (zqg8 b0 b1).1 hs j) c.key
 have hle:=zxa1 b0 b1 a0 hs;refine ⟨⟨h0,by omega⟩,⟨⟨⟨⟨?_,h2⟩,h3⟩,h4⟩,h5⟩,h6⟩
 show downL S a b c.key < keysL S.ds b S.ds.length
 rw [hd,zqh8];exact hr.2
def Qv (S:Sc) (m:Int) (n:Nat) (x:Ce):Prop:=Sv n x ∧ (∀ k,k < x.is.length → Tidy (wg x.is k).sq) ∧ ((∀ k,k < x.is.length → (wg x.is k).sq.length ≤ 7) → rightC S m x = true)
theorem Qv.mono {S:Sc} {m:Int} {n k:Nat} {c:Ce} (h:Qv S m n c) (hk:n ≤ k):Qv S m k c:=⟨h.1.mono hk,h.2⟩
theorem zxaq {S:Sc} {m:Int} {c:Ce} (h:rightC S m c = true):∀ k,k < c.is.length → Tidy (wg c.is k).sq:=fun k hk => by
 unfold rightC validC at h;simp only [Bool.and_eq_true,decide_eq_true_eq] at h;obtain ⟨-,⟨-,h5⟩,-⟩:=h;have h1:=List.all_eq_true.1 h5 k (by simpa using hk)
 unfold rightW at h1;simp only [Bool.and_eq_true,decide_eq_true_eq] at h1;exact zqlx.1 h1.2
theorem zxba {S:Sc} {m:Int} {c:Ce} (h:rightC S m c = true) (hs:Sv 1 c):Qv S m 1 c:=⟨hs,zxaq h,fun _ => h⟩
theorem zxcf {S:Sc} {m:Int} {n:Nat} {a b:Ce} (ha:Qv S m n a) (hb:Sv 1 b) (hr:rightC S m b = true) (hn:n ≤ 1000) (e:errJ a b = 0):Qv S m (n + 1) (joinC a b):=by
 have hj:=zqk6 ha.1.1 hb.1 e;obtain ⟨q1,q2,q3,-⟩:=zqfp e;refine ⟨zqzm ha.1 hb hn e,fun k hk => (hj.is k (by rw [← hj.li]; exact hk)).ty,fun hl => ?_⟩
 refine hj.right e ha.1.1 hb.1 (ha.2.2 fun k hk => ?_) hr hl
 have hk2:k < (joinC a b).is.length:=by rw [hj.li]; exact hk
 have h1:=hj.is k hk;have h2:=hl k hk2;have h3:=(zqas h1.wd).2;have h4:=(zqas (hb.1.wg (show k < b.is.length by omega)).sq).1
 refine (ha.2.1 k hk).wlen (ha.1.1.wg hk).sq (n:=7) ?_;have h5:=Nat.pow_le_pow_right (n:=4294967296) (by decide) h2
 have e1:((4294967296 ^ (wg (joinC a b).is k).sq.length:Nat):Int) = 4294967296 ^ (wg (joinC a b).is k).sq.length:=by rw [Int.natCast_pow]; rfl
 have e2:((4294967296 ^ 7:Nat):Int) = 4294967296 ^ 7:=by rw [Int.natCast_pow]; rfl
 have h6:(4294967296:Int) ^ (wg (joinC a b).is k).sq.length ≤ 4294967296 ^ 7:=by rw [← e1,← e2]; exact Int.ofNat_le.2 h5
 have h7:=h1.sq;refine Int.lt_of_lt_of_le ?_ h6;refine Int.lt_of_le_of_lt ?_ h3;omega
theorem zxbl {S:Sc} {m:Int}:∀ {l:List Ce} {c:Ce} {n:Nat},(∀ x ∈ l,Qv S m n x) → Sv 1 c → rightC S m c = true → 1 ≤ n → n ≤ 1000 → ∀ x ∈ (withL l c).2,Qv S m (n + 1) x
 | [],c,n,_,hc,hr,h1,_,x,hx => by
  obtain rfl:x = c:=by simpa [withL] using hx
  exact (zxba hr hc).mono (by omega)
 | y :: l,c,n,hl,hc,hr,h1,hn,x,hx => by
  have hy:=hl y (List.mem_cons_self ..);have ih:=fun x => zxbl (l:=l) (c:=c) (n:=n) (fun z hz => hl z (List.mem_cons_of_mem _ hz)) hc hr h1 hn x
  unfold withL at hx
  by_cases q:y.key < c.key
  ·rw [if_pos q] at hx
   by_cases e:(withL l c).1 = 0
   ·rw [if_pos e] at hx;rcases List.mem_cons.1 hx with rfl | hx
    ·exact hy.mono (by omega)
    ·exact ih x hx
   ·rw [if_neg e] at hx; cases hx
  ·rw [if_neg q] at hx
   by_cases q2:y.key = c.key
   ·rw [if_pos q2] at hx
    by_cases e:errJ y c = 0
    ·rw [if_pos e] at hx;rcases List.mem_cons.1 hx with rfl | hx
     ·exact zxcf hy hc hr hn e
     ·exact (hl x (List.mem_cons_of_mem _ hx)).mono (by omega)
    ·rw [if_neg e] at hx; cases hx
   ·rw [if_neg q2] at hx;rcases List.mem_cons.1 hx with rfl | hx
    ·exact (zxba hr hc).mono (by omega)
    ·exact (hl x hx).mono (by omega)
theorem zxbg {S:Sc} {m:Int}:∀ (l acc:List Ce) (n:Nat),(∀ c ∈ l,Sv 1 c ∧ rightC S m c = true) → (∀ x ∈ acc,Qv S m n x) → 1 ≤ n → n + l.length ≤ 1000 → ∀ x ∈ (foldC acc l).2,Qv S m (n + l.length) x
 | [],acc,n,_,ha,_,_,x,hx => (ha x hx).mono (by simp)
 | c :: l,acc,n,hf,ha,h1,hn,x,hx => by
  simp only [List.length_cons] at hn ⊢;unfold foldC at hx
  by_cases hw:(withL acc c).1 = 0
  ·rw [if_pos hw] at hx;have hc:=hf c (List.mem_cons_self ..);exact (zxbg l _ (n + 1) (fun g hg => hf g (List.mem_cons_of_mem _ hg)) (zxbl ha hc.1 hc.2 h1 (by omega)) (by omega) (by omega) x hx).mono (by omega)
  ·rw [if_neg hw] at hx; cases hx
theorem zxa3:∀ (l acc:List Ce),¬ (foldC acc l).1 = 0 → (foldC acc l).2 = []
 | [],acc,h => absurd rfl h
 | c :: l,acc,h => by
  unfold foldC at h ⊢
  by_cases h1:(withL acc c).1 = 0
  ·rw [if_pos h1] at h ⊢;exact zxa3 l _ h
  ·rw [if_neg h1]
theorem zxa6 {S:Sc} {a b:Int} {l:List Ce} (h:¬ (rollE S a b l).1 = 0):(rollE S a b l).2 = []:=by
 unfold rollE at h ⊢
 by_cases h1:rightL S a l = true
 ·rw [if_pos h1] at h ⊢
  by_cases h2:subM b a = true
  ·rw [if_pos h2] at h ⊢;exact zxa3 _ _ h
  ·rw [if_neg h2]
 ·rw [if_neg h1]
def bigB (l:List Ce):Bool:=l.any fun c => c.is.any fun x => decide (7 < x.sq.length)
theorem zxas {S:Sc} {a b:Int} {l:List Ce} (h:(rollE S a b l).1 = 0):rightL S a l = true ∧ subM b a = true ∧ rollE S a b l = foldC [] (l.map (rkC S a b)):=by
 unfold rollE at h ⊢
 by_cases h1:rightL S a l = true
 ·rw [if_pos h1] at h ⊢
  by_cases h2:subM b a = true
  ·rw [if_pos h2] at h ⊢;exact ⟨h1,h2,rfl⟩
  ·rw [if_neg h2] at h; cases h
 ·rw [if_neg h1] at h; cases h
theorem zxbi {S:Sc} {a b:Int} {l:List Ce} (hs:∀ c ∈ l,Sv 1 c) (hl:l.length ≤ 900) (a0:0 ≤ a) (b0:0 ≤ b) (b1:b ≤ 4294967295):∀ x ∈ (rollE S a b l).2,Qv S b 1000 x:=by
 by_cases h:(rollE S a b l).1 = 0
 ·obtain ⟨h1,h2,h3⟩:=zxas h;rw [h3];intro x hx;refine (zxbg _ [] 1 (fun c hc => ?_) (fun x hx => nomatch hx) (by omega) (by rw [List.length_map]; omega) x hx).mono (by rw [List.length_map]; omega)
  obtain ⟨c,hc2,rfl⟩:=List.mem_map.1 hc;obtain ⟨i,hi,rfl⟩:=List.getElem_of_mem hc2;refine ⟨(hs _ hc2).key _ (zqv2 b0 b1),?_⟩;have h4:=(zqfz.1 h1).2.2 i hi;rw [zqat hi] at h4;exact zxbb h4 h2 a0 b0 b1
 ·rw [zxa6 h];exact fun x hx => nomatch hx
theorem zxbr {S:Sc} {a b:Int} {l:List Ce} (hs:∀ c ∈ l,Sv 1 c) (hl:l.length ≤ 900) (a0:0 ≤ a) (b0:0 ≤ b) (b1:b ≤ 4294967295) (h:(rollE S a b l).1 = 0) (hb:bigB (rollE S a b l).2 = false):rightL S b (rollE S a b l).2 = true:=by
 have hq:=zxbi hs hl a0 b0 b1 (S:=S);obtain ⟨h1,h2,h3⟩:=zxas h;have hr:risingC (rollE S a b l).2:=by
  rw [h3] at h ⊢;exact zxal _ _ List.Pairwise.nil h
 have h4:=(zqfz.1 h1).1;have h5:=zxa1 b0 b1 a0 h2;refine zqfz.2 ⟨⟨h4.1,by omega⟩,zxar.2 hr,fun i hi => ?_⟩
 rw [zqat hi];refine (hq _ (List.getElem_mem hi)).2.2 fun k hk => ?_
 apply Nat.le_of_not_lt;intro hk7;have:bigB (rollE S a b l).2 = true:=List.any_eq_true.2 ⟨_,List.getElem_mem hi,List.any_eq_true.2 ⟨_,List.getElem_mem hk,decide_eq_true (by rw [zqaq hk] at hk7; exact hk7)⟩⟩
 rw [hb] at this;cases this
theorem zxa0 {S:Sc} {a b:Int} {l:List Ce} (hs:∀ c ∈ l,Sv 1 c) (hl:l.length ≤ 900) (a0:0 ≤ a) (b0:0 ≤ b) (b1:b ≤ 4294967295):LsW (rollE S a b l).2:=fun c hc => (zxbi hs hl a0 b0 b1 c hc).1.1
def sumZ {α:Type} (f:α → Int) (l:List α):Int:=(l.map f).sum
theorem zxbc {α:Type} (f:α → Int):sumZ f [] = 0:=rfl
theorem zxaa {α:Type} (f:α → Int) (a:α) (l:List α):sumZ f (a :: l) = f a + sumZ f l:=by simp [sumZ]
theorem zxab {α:Type} (f:α → Int) (l m:List α):sumZ f (l ++ m) = sumZ f l + sumZ f m:=by simp [sumZ]
theorem zxac {α:Type} (f:α → Int) {l m:List α} (h:l.Perm m):sumZ f l = sumZ f m:=by
 induction h with
 | nil => rfl
 | cons x _ ih => rw [zxaa,zxaa,ih]
 | swap x y l => rw [zxaa,zxaa,zxaa,zxaa]; omega
 | trans _ _ h1 h2 => exact h1.trans h2
theorem zxb8 {α:Type} {f:α → Int} {l m:List α} (h:l.Sublist m) (h0:∀ x ∈ m,0 ≤ f x):sumZ f l ≤ sumZ f m:=by
 induction h with
 | slnil => exact Int.le_refl _
 | cons a _ ih =>
  rw [zxaa];have:=ih fun x hx => h0 x (List.mem_cons_of_mem _ hx)
  have:=h0 a (List.mem_cons_self ..);omega
 | cons_cons a _ ih =>
  rw [zxaa,zxaa];have:=ih fun x hx => h0 x (List.mem_cons_of_mem _ hx)
  omega
def LeZ {α:Type} (f:α → Int) (l:List α) (z:Int):Prop:=(∃ x ∈ l,f x = z) ∧ ∀ x ∈ l,z ≤ f x
def GeZ {α:Type} (f:α → Int) (l:List α) (z:Int):Prop:=(∃ x ∈ l,f x = z) ∧ ∀ x ∈ l,f x ≤ z
theorem LeZ.one {α:Type} {f:α → Int} {l m:List α} {y z:Int} (h:LeZ f l y) (k:LeZ f m z) (hm:∀ x,x ∈ l ↔ x ∈ m):y = z:=by
 obtain ⟨⟨a,ha,rfl⟩,h2⟩:=h;obtain ⟨⟨b,hb,rfl⟩,k2⟩:=k;have:=h2 b ((hm b).2 hb);have:=k2 a ((hm a).1 ha);omega
theorem GeZ.one {α:Type} {f:α → Int} {l m:List α} {y z:Int} (h:GeZ f l y) (k:GeZ f m z) (hm:∀ x,x ∈ l ↔ x ∈ m):y = z:=by
 obtain ⟨⟨a,ha,rfl⟩,h2⟩:=h;obtain ⟨⟨b,hb,rfl⟩,k2⟩:=k;have:=h2 b ((hm b).2 hb);have:=k2 a ((hm a).1 ha);omega
theorem LeZ.app {α:Type} {f:α → Int} {l m:List α} {y z v:Int} (h:LeZ f l y) (k:LeZ f m z) (hv:v = if z < y then z else y):LeZ f (l ++ m) v:=by
 obtain ⟨⟨a,ha,rfl⟩,h2⟩:=h;obtain ⟨⟨b,hb,rfl⟩,k2⟩:=k;rw [hv]
 by_cases q:f b < f a
 ·rw [if_pos q];refine ⟨⟨b,List.mem_append_right _ hb,rfl⟩,fun x hx => ?_⟩
  rcases List.mem_append.1 hx with hx | hx
  ·have:=h2 x hx; omega
  ·exact k2 x hx
 ·rw [if_neg q];refine ⟨⟨a,List.mem_append_left _ ha,rfl⟩,fun x hx => ?_⟩
  rcases List.mem_append.1 hx with hx | hx
  ·exact h2 x hx
  ·have:=k2 x hx; omega
theorem GeZ.app {α:Type} {f:α → Int} {l m:List α} {y z v:Int} (h:GeZ f l y) (k:GeZ f m z) (hv:v = if y < z then z else y):GeZ f (l ++ m) v:=by
 obtain ⟨⟨a,ha,rfl⟩,h2⟩:=h;obtain ⟨⟨b,hb,rfl⟩,k2⟩:=k;rw [hv]
 by_cases q:f a < f b
 ·rw [if_pos q];refine ⟨⟨b,List.mem_append_right _ hb,rfl⟩,fun x hx => ?_⟩
  rcases List.mem_append.1 hx with hx | hx
  ·have:=h2 x hx; omega
  ·exact k2 x hx
 ·rw [if_neg q];refine ⟨⟨a,List.mem_append_left _ ha,rfl⟩,fun x hx => ?_⟩
  rcases List.mem_append.1 hx with hx | hx
  ·exact h2 x hx
  ·have:=k2 x hx; omega
structure Rep (ni nn:Nat) (c:Ce) (G:List Ce):Prop where
 ne:G ≠ []
 li:c.is.length = ni
 ln:c.ns.length = nn
 cnt:c.cnt = sumZ (fun x => x.cnt) G
 sum:∀ k,k < ni → (wg c.is k).sum = sumZ (fun x => (wg x.is k).sum) G
 abs:∀ k,k < ni → (wg c.is k).abs = sumZ (fun x => (wg x.is k).abs) G
 sq:∀ k,k < ni → wv (wg c.is k).sq = sumZ (fun x => wv (wg x.is k).sq) G
 wd:∀ k,k < ni → Wd (wg c.is k).sq
 ty:∀ k,k < ni → Tidy (wg c.is k).sq
 mn:∀ k,k < ni → LeZ (fun x => (wg x.is k).mn) G (wg c.is k).mn
 mx:∀ k,k < ni → GeZ (fun x => (wg x.is k).mx) G (wg c.is k).mx
 bt:∀ k,k < nn → Bt5 (rg c.ns k).sum
 er:∀ k,k < nn → errN (rg c.ns k).sum = 0
 tt:∀ k,k < nn → readT (rg c.ns k).sum = sumZ (fun x => readT (rg x.ns k).sum) G
 fl:∀ k,k < nn → ∀ j,(readF (rg c.ns k).sum).testBit j = true ↔ ∃ x ∈ G,(readF (rg x.ns k).sum).testBit j = true
 kn:∀ k,k < nn → LeZ (fun x => keyI (rg x.ns k).mn) G (keyI (rg c.ns k).mn)
 kx:∀ k,k < nn → GeZ (fun x => keyI (rg x.ns k).mx) G (keyI (rg c.ns k).mx)
theorem Rep.key {ni nn:Nat} {c:Ce} {G:List Ce} (h:Rep ni nn c G) (q:Int):Rep ni nn ⟨q,c.cnt,c.is,c.ns⟩ G :=
 ⟨h.ne,h.li,h.ln,h.cnt,h.sum,h.abs,h.sq,h.wd,h.ty,h.mn,h.mx,h.bt,h.er,h.tt,h.fl,h.kn,h.kx⟩
theorem Rep.perm {ni nn:Nat} {c:Ce} {G H:List Ce} (h:Rep ni nn c G) (p:G.Perm H):Rep ni nn c H:=by
 have hm:∀ x,x ∈ G ↔ x ∈ H:=fun x => p.mem_iff
 refine ⟨fun e => h.ne (by rw [e] at p; exact p.eq_nil),h.li,h.ln,h.cnt.trans (zxac _ p),fun k hk => (h.sum k hk).trans (zxac _ p),fun k hk => (h.abs k hk).trans (zxac _ p),fun k hk => (h.sq k hk).trans (zxac _ p),h.wd,h.ty,fun k hk => ?_,fun k hk => ?_,h.bt,h.er,fun k hk => (h.tt k hk).trans (zxac _ p),fun k hk j => ?_,fun k hk => ?_,fun k hk => ?_⟩
 ·obtain ⟨⟨a,ha,e⟩,h2⟩:=h.mn k hk;exact ⟨⟨a,(hm a).1 ha,e⟩,fun x hx => h2 x ((hm x).2 hx)⟩
 ·obtain ⟨⟨a,ha,e⟩,h2⟩:=h.mx k hk;exact ⟨⟨a,(hm a).1 ha,e⟩,fun x hx => h2 x ((hm x).2 hx)⟩
 ·rw [h.fl k hk j];exact ⟨fun ⟨x,hx,q⟩ => ⟨x,(hm x).1 hx,q⟩,fun ⟨x,hx,q⟩ => ⟨x,(hm x).2 hx,q⟩⟩
 ·obtain ⟨⟨a,ha,e⟩,h2⟩:=h.kn k hk;exact ⟨⟨a,(hm a).1 ha,e⟩,fun x hx => h2 x ((hm x).2 hx)⟩
 ·obtain ⟨⟨a,ha,e⟩,h2⟩:=h.kx k hk;exact ⟨⟨a,(hm a).1 ha,e⟩,fun x hx => h2 x ((hm x).2 hx)⟩
theorem Rep.same {ni nn:Nat} {c d:Ce} {G:List Ce} (h:Rep ni nn c G) (k:Rep ni nn d G) (hk:c.key = d.key):sameC c d = true :=
 same_iff.2 {
  key:=hk
  cnt:=h.cnt.trans k.cnt.symm
  li:=h.li.trans k.li.symm
  ln:=h.ln.trans k.ln.symm
  is:=fun i hi => by
   have hi2:i < ni:=by rw [← h.li]; exact hi
   unfold sameWh;rw [(h.sum i hi2).trans (k.sum i hi2).symm,(h.abs i hi2).trans (k.abs i hi2).symm,(h.mn i hi2).one (k.mn i hi2) fun x => Iff.rfl,(h.mx i hi2).one (k.mx i hi2) fun x => Iff.rfl,zqbb (h.wd i hi2) (k.wd i hi2) (h.ty i hi2) (k.ty i hi2) ((h.sq i hi2).trans (k.sq i hi2).symm)]
   simp
  ns:=fun i hi => by
   have hi2:i < nn:=by rw [← h.ln]; exact hi
   have e1:readF (rg c.ns i).sum = readF (rg d.ns i).sum:=Nat.eq_of_testBit_eq fun j => by
    have h1:=h.fl i hi2 j;have h2:=k.fl i hi2 j
    by_cases q:∃ x ∈ G,(readF (rg x.ns i).sum).testBit j = true
    ·rw [h1.2 q,h2.2 q]
    ·rw [eq_false_of_ne_true fun e => q (h1.1 e),eq_false_of_ne_true fun e => q (h2.1 e)]
   have e2:=(h.tt i hi2).trans (k.tt i hi2).symm;have e3:=zqxf (h.bt i hi2) (h.er i hi2);rw [e1,e2] at e3;unfold sameRe sameB;rw [e3.unique (zqxf (k.bt i hi2) (k.er i hi2)),(h.kn i hi2).one (k.kn i hi2) fun x => Iff.rfl,(h.kx i hi2).one (k.kx i hi2) fun x => Iff.rfl]
   simp }
theorem zxaz {S:Sc} {m:Int} {c:Ce} (h:rightC S m c = true) (hw:CeW c):Rep S.is.length S.ns.length c [c]:=by
 have ht:=zxaq h;unfold rightC validC at h;simp only [Bool.and_eq_true,decide_eq_true_eq] at h;obtain ⟨-,⟨⟨-,h3⟩,h4⟩,-⟩:=id h;obtain ⟨-,⟨⟨⟨-,h3⟩,h4⟩,h5⟩,h6⟩:=h;have he:∀ k,k < S.ns.length → errN (rg c.ns k).sum = 0:=fun k hk => by
  have:=List.all_eq_true.1 h6 k (by simpa using (by omega:k < c.ns.length))
  unfold rightR at this;simp only [Bool.and_eq_true,decide_eq_true_eq] at this;exact this.1
 have s1:∀ f:Ce → Int,f c = sumZ f [c]:=fun f => by rw [zxaa,zxbc]; omega
 have l1:∀ f:Ce → Int,LeZ f [c] (f c):=fun f => ⟨⟨c,List.mem_singleton.2 rfl,rfl⟩,fun x hx => by rw [List.mem_singleton.1 hx]; exact Int.le_refl _⟩
 have g1:∀ f:Ce → Int,GeZ f [c] (f c):=fun f => ⟨⟨c,List.mem_singleton.2 rfl,rfl⟩,fun x hx => by rw [List.mem_singleton.1 hx]; exact Int.le_refl _⟩
 exact ⟨by simp,h3,h4,s1 _,fun k _ => s1 fun x => (wg x.is k).sum,fun k _ => s1 fun x => (wg x.is k).abs,fun k _ => s1 fun x => wv (wg x.is k).sq,fun k hk => (hw.wg (by omega)).sq,fun k hk => ht k (by omega),fun k _ => l1 fun x => (wg x.is k).mn,fun k _ => g1 fun x => (wg x.is k).mx,fun k hk => (hw.rg (by omega)).sum,he,fun k _ => s1 fun x => readT (rg x.ns k).sum,fun k _ j => by simp,fun k _ => l1 fun x => keyI (rg x.ns k).mn,fun k _ => g1 fun x => keyI (rg x.ns k).mx⟩
theorem Rep.join {ni nn:Nat} {x y z:Ce} {G H:List Ce} (h:Rep ni nn x G) (k:Rep ni nn y H) (wx:CeW x) (wy:CeW y) (hj:JC x y z):Rep ni nn z (G ++ H):=by
 have hW:∀ i,i < ni → JW (wg x.is i) (wg y.is i) (wg z.is i):=fun i hi => hj.is i (by rw [h.li]; exact hi)
 have hR:∀ i,i < nn → JR (rg x.ns i) (rg y.ns i) (rg z.ns i):=fun i hi => hj.ns i (by rw [h.ln]; exact hi)
 have hE:∀ i,i < nn → errN (rg z.ns i).sum = 0:=fun i hi => by
  have hr:=hR i hi;exact zxav (Good.join (zqgs (wx.rg (by rw [h.ln]; exact hi)).sum hr.e1).1 (zqgs (wy.rg (by rw [k.ln]; exact hi)).sum hr.e2).1 hr.ft) hr.sum
 have hrd:∀ i,(hi:i < nn) → readF (rg z.ns i).sum = readF (rg x.ns i).sum ||| readF (rg y.ns i).sum ∧ readT (rg z.ns i).sum = readT (rg x.ns i).sum + readT (rg y.ns i).sum:=fun i hi => (hR i hi).reads (hR i hi).bt (hE i hi)
 refine ⟨fun e => h.ne (List.append_eq_nil_iff.1 e).1,hj.li.trans h.li,hj.ln.trans h.ln,by rw [hj.cnt,zxab,h.cnt,k.cnt],fun i hi => by rw [(hW i hi).sum,zxab,h.sum i hi,k.sum i hi],fun i hi => by rw [(hW i hi).abs,zxab,h.abs i hi,k.abs i hi],fun i hi => by rw [(hW i hi).sq,zxab,h.sq i hi,k.sq i hi],fun i hi => (hW i hi).wd,fun i hi => (hW i hi).ty,fun i hi => (h.mn i hi).app (k.mn i hi) (by rw [(hW i hi).mn]; split <;> omega),fun i hi => (h.mx i hi).app (k.mx i hi) (by rw [(hW i hi).mx]; split <;> omega),fun i hi => (hR i hi).bt,hE,fun i hi => by rw [(hrd i hi).2,zxab,h.tt i hi,k.tt i hi],fun i hi j => ?_,fun i hi => (h.kn i hi).app (k.kn i hi) ?_,fun i hi => (h.kx i hi).app (k.kx i hi) ?_⟩
 ·rw [(hrd i hi).1,Nat.testBit_or,Bool.or_eq_true,h.fl i hi j,k.fl i hi j]
  constructor
  ·rintro (⟨a,ha,q⟩ | ⟨a,ha,q⟩)
   ·exact ⟨a,List.mem_append_left _ ha,q⟩
   ·exact ⟨a,List.mem_append_right _ ha,q⟩
  ·rintro ⟨a,ha,q⟩;rcases List.mem_append.1 ha with ha | ha
   ·exact .inl ⟨a,ha,q⟩
   ·exact .inr ⟨a,ha,q⟩
 ·rw [(hR i hi).mn];unfold lessB
  by_cases q:keyI (rg y.ns i).mn < keyI (rg x.ns i).mn
  ·rw [if_pos (decide_eq_true q),if_pos q]
  ·rw [if_neg (by simpa using q),if_neg q]
 ·rw [(hR i hi).mx];unfold lessB
  by_cases q:keyI (rg x.ns i).mx < keyI (rg y.ns i).mx
  ·rw [if_pos (decide_eq_true q),if_pos q]
  ·rw [if_neg (by simpa using q),if_neg q]
def grp (κ:Ce → Int) (q:Int) (l:List Ce):List Ce:=l.filter fun f => decide (κ f = q)
theorem zxay (κ:Ce → Int) (q:Int) (l m:List Ce):grp κ q (l ++ m) = grp κ q l ++ grp κ q m:=List.filter_append ..
theorem zxax {κ:Ce → Int} {q:Int} {l:List Ce} (h:∀ f ∈ l,κ f = q):grp κ q l = l:=List.filter_eq_self.2 fun f hf => decide_eq_true (h f hf)
theorem zxap {κ:Ce → Int} {q:Int} {l:List Ce} (h:∀ f ∈ l,κ f ≠ q):grp κ q l = []:=List.filter_eq_nil_iff.2 fun f hf => by simpa using h f hf
theorem zxaf {κ:Ce → Int} {q:Int} {l:List Ce} {f:Ce}:f ∈ grp κ q l ↔ f ∈ l ∧ κ f = q:=by simp [grp]
structure RepL (ni nn:Nat) (κ:Ce → Int) (L Fs:List Ce):Prop where
 r:risingC L
 c:∀ c ∈ L,Rep ni nn c (grp κ c.key Fs)
 a:∀ f ∈ Fs,∃ c ∈ L,c.key = κ f
theorem RepL.nil (ni nn:Nat) (κ:Ce → Int):RepL ni nn κ [] []:=⟨List.Pairwise.nil,(fun c h => nomatch h),(fun f h => nomatch h)⟩
theorem RepL.perm {ni nn:Nat} {κ:Ce → Int} {L Fs Gs:List Ce} (h:RepL ni nn κ L Fs) (p:Fs.Perm Gs):RepL ni nn κ L Gs :=
 ⟨h.r,fun c hc => (h.c c hc).perm (p.filter _),fun f hf => h.a f (p.mem_iff.2 hf)⟩
theorem RepL.with {ni nn:Nat} {κ:Ce → Int} {L Fs G:List Ce} {c:Ce} (h:RepL ni nn κ L Fs) (hw:∀ x ∈ L,x.key = c.key → CeW x) (hc:Rep ni nn c G) (wc:CeW c) (hk:∀ f ∈ G,κ f = c.key) (he:(withL L c).1 = 0):RepL ni nn κ (withL L c).2 (Fs ++ G):=by
 cases hl:lookC L c.key with
 | none =>
  have hno:=zqg3 hl;obtain ⟨-,-,h3,h4⟩:=zqx1 h.r hno;refine ⟨h3,fun z hz => ?_,fun f hf => ?_⟩
  ·rw [zxay];rcases (h4 z).1 hz with rfl | hz
   ·rw [zxap (l:=Fs) fun f hf e => by
     obtain ⟨x,hx,e2⟩:=h.a f hf;exact hno x hx (e2.trans e),zxax hk,List.nil_append]
    exact hc
   ·rw [zxap (l:=G) fun f hf e => hno z hz (by rw [← e,hk f hf]),List.append_nil]
    exact h.c z hz
  ·rcases List.mem_append.1 hf with hf | hf
   ·obtain ⟨x,hx,e⟩:=h.a f hf;exact ⟨x,(h4 x).2 (.inr hx),e⟩
   ·exact ⟨c,(h4 c).2 (.inl rfl),(hk f hf).symm⟩
 | some x =>
  obtain ⟨hx,hxk⟩:=zqde hl;obtain ⟨h1,h2⟩:=zqir h.r hx hxk;have h0:errJ x c = 0:=h1.symm.trans he;obtain ⟨-,h3,h4⟩:=h2 h0;have hj:=zqk6 (hw x hx hxk) wc h0;refine ⟨h3,fun z hz => ?_,fun f hf => ?_⟩
  ·rw [zxay];rcases (h4 z).1 hz with rfl | ⟨hz,hne⟩
   ·rw [hj.key,hxk,zxax hk];have:=h.c x hx;rw [hxk] at this;exact this.join hc (hw x hx hxk) wc hj
   ·rw [zxap (l:=G) fun f hf e => hne (by rw [← e,hk f hf]),List.append_nil]
    exact h.c z hz
  ·rcases List.mem_append.1 hf with hf | hf
   ·obtain ⟨y,hy,e⟩:=h.a f hf
    by_cases q:y.key = c.key
    ·exact ⟨joinC x c,(h4 _).2 (.inl rfl),by rw [hj.key,hxk,← q,e]⟩
    ·exact ⟨y,(h4 y).2 (.inr ⟨hy,q⟩),e⟩
   ·exact ⟨joinC x c,(h4 _).2 (.inl rfl),by rw [hj.key,hxk,hk f hf]⟩
def Stays (r:Ce → Ce) (Inv:List Ce → List Ce → Prop):Prop:=∀ L c cs,Inv L (c :: cs) → (∀ x ∈ L,x.key = (r c).key → CeW x) ∧ ((withL L (r c)).1 = 0 → Inv (withL L (r c)).2 cs)
theorem RepL.fold {ni nn:Nat} {κ:Ce → Int} {r:Ce → Ce} {g:Ce → List Ce} {Inv:List Ce → List Ce → Prop} (hI:Stays r Inv):∀ (cs:List Ce) {L Fs:List Ce},RepL ni nn κ L Fs → Inv L cs → (∀ c ∈ cs,Rep ni nn (r c) (g c) ∧ CeW (r c) ∧ ∀ f ∈ g c,κ f = (r c).key) → (foldC L (cs.map r)).1 = 0 →
  RepL ni nn κ (foldC L (cs.map r)).2 (Fs ++ cs.flatMap g) ∧ Inv (foldC L (cs.map r)).2 []
 | [],L,Fs,h,hi,_,_ => by
  rw [List.flatMap_nil,List.append_nil];exact ⟨h,hi⟩
 | c :: cs,L,Fs,h,hi,hc,he => by
  obtain ⟨c1,c2,c3⟩:=hc c (List.mem_cons_self ..);obtain ⟨i1,i2⟩:=hI L c cs hi;rw [List.map_cons] at he ⊢;unfold foldC at he ⊢
  by_cases hw:(withL L (r c)).1 = 0
  ·rw [if_pos hw] at he ⊢;have:=RepL.fold hI cs (h.with i1 c1 c2 c3 hw) (i2 hw) (fun d hd => hc d (List.mem_cons_of_mem _ hd)) he
   rw [List.flatMap_cons,← List.append_assoc];exact this
  ·rw [if_neg hw] at he; exact absurd he hw
def InvS (r:Ce → Ce) (L cs:List Ce):Prop:=∃ n,1 ≤ n ∧ n + cs.length ≤ 1000 ∧ (∀ x ∈ L,Sv n x) ∧ ∀ c ∈ cs,Sv 1 (r c)
theorem invS (r:Ce → Ce):Stays r (InvS r):=fun L c cs ⟨n,h1,h2,h3,h4⟩ => by
 simp only [List.length_cons] at h2;exact ⟨fun x hx _ => (h3 x hx).1,fun _ => ⟨n + 1,by omega,by omega,fun x hx => zqko h3 (h4 c (List.mem_cons_self ..)) h1 (by omega) x hx,fun d hd => h4 d (List.mem_cons_of_mem _ hd)⟩⟩
structure Lf (ni nn:Nat) (x:Ce):Prop where
 li:x.is.length = ni
 ln:x.ns.length = nn
 cnt:x.cnt = 1
 abs:∀ k,k < ni → 0 ≤ (wg x.is k).abs ∧ -(wg x.is k).abs ≤ (wg x.is k).sum ∧ (wg x.is k).sum ≤ (wg x.is k).abs
 tt:∀ k,k < nn → Fewer 1 (readT (rg x.ns k).sum)
 sq:∀ k,k < ni → wv (wg x.is k).sq ≤ 85070591730234615865843651857942052864
def OkG (ni:Nat) (G:List Ce):Prop:=∀ k,k < ni → sumZ (fun x => (wg x.is k).abs) G ≤ 9223372036854775807
theorem OkG.sub {ni nn:Nat} {G H:List Ce} (h:OkG ni H) (hs:G.Sublist H) (hl:∀ x ∈ H,Lf ni nn x):OkG ni G:=fun k hk =>
 Int.le_trans (zxb8 hs fun x hx => ((hl x hx).abs k hk).1) (h k hk)
theorem OkG.perm {ni:Nat} {G H:List Ce} (h:OkG ni G) (p:G.Perm H):OkG ni H:=fun k hk => by rw [← zxac _ p]; exact h k hk
theorem Rep.okG {ni nn:Nat} {c:Ce} {G:List Ce} (h:Rep ni nn c G) (hw:CeW c):OkG ni G:=fun k hk => by
 rw [← h.abs k hk];exact (hw.wg (by rw [h.li]; exact hk)).abs.2
theorem zxch {ni nn:Nat} {G:List Ce} (hl:∀ x ∈ G,Lf ni nn x):sumZ (fun x => x.cnt) G = G.length:=by
 induction G with
 | nil => rfl
 | cons a G ih =>
  rw [zxaa,ih fun x hx => hl x (List.mem_cons_of_mem _ hx),(hl a (List.mem_cons_self ..)).cnt,List.length_cons]
  omega
theorem zxcg {ni nn:Nat} {G:List Ce} (hl:∀ x ∈ G,Lf ni nn x) {k:Nat} (hk:k < ni):0 ≤ sumZ (fun x => (wg x.is k).abs) G ∧ -sumZ (fun x => (wg x.is k).abs) G ≤ sumZ (fun x => (wg x.is k).sum) G ∧ sumZ (fun x => (wg x.is k).sum) G ≤ sumZ (fun x => (wg x.is k).abs) G:=by
 induction G with
 | nil => simp [sumZ]
 | cons a G ih =>
  have h1:=ih fun x hx => hl x (List.mem_cons_of_mem _ hx)
  have h2:=(hl a (List.mem_cons_self ..)).abs k hk;rw [zxaa,zxaa];omega
theorem zxcl {ni nn:Nat} {G:List Ce} (hl:∀ x ∈ G,Lf ni nn x) {k:Nat} (hk:k < nn):Fewer G.length (sumZ (fun x => readT (rg x.ns k).sum) G):=by
 induction G with
 | nil => exact Fewer.zero
 | cons a G ih =>
  rw [zxaa,List.length_cons,Nat.add_comm];exact ((hl a (List.mem_cons_self ..)).tt k hk).add (ih fun x hx => hl x (List.mem_cons_of_mem _ hx))
theorem zxb1 {ni nn:Nat} {x y:Ce} {G H:List Ce} (h:Rep ni nn x G) (k:Rep ni nn y H) (hk:x.key = y.key) (ho:OkG ni (G ++ H)) (hl:∀ z ∈ G ++ H,Lf ni nn z) (hn:(G ++ H).length ≤ 1000):errJ x y = 0:=by
 have hn2:(G ++ H).length = G.length + H.length:=List.length_append;unfold errJ;rw [if_pos ⟨hk,h.li.trans k.li.symm,h.ln.trans k.ln.symm⟩,if_pos]
 ·refine zqdo _ fun i hi => ?_
  have hi2:i < nn:=by rw [← h.ln]; exact hi
  unfold rErr;rw [if_pos ⟨h.er i hi2,k.er i hi2⟩,if_pos];have:=(zxcl hl hi2).fits hn;rw [zxab,← h.tt i hi2,← k.tt i hi2] at this;exact this
 ·constructor
  ·rw [h.cnt,k.cnt,← zxab,zxch hl];unfold fitB;simp;omega
  ·intro i hi;have hi2:i < ni:=by rw [← h.li]; exact hi
   have h1:=zxcg hl hi2;have h2:=ho i hi2;unfold okW fitB;rw [h.sum i hi2,k.sum i hi2,h.abs i hi2,k.abs i hi2,← zxab,← zxab];simp;omega
theorem zxci {ni nn:Nat} {κ:Ce → Int} {L Fs G:List Ce} {c:Ce} (h:RepL ni nn κ L Fs) (hc:Rep ni nn c G) (hk:∀ f ∈ G,κ f = c.key) (ho:OkG ni (grp κ c.key (Fs ++ G))) (hl:∀ z ∈ Fs ++ G,Lf ni nn z) (hn:(Fs ++ G).length ≤ 1000):(withL L c).1 = 0:=by
 cases hlk:lookC L c.key with
 | none => exact (zqx1 h.r (zqg3 hlk)).1
 | some x =>
  obtain ⟨hx,hxk⟩:=zqde hlk;rw [(zqir h.r hx hxk).1];have h1:=h.c x hx;rw [hxk] at h1;rw [zxay,zxax hk] at ho;refine zxb1 h1 hc hxk ho (fun z hz => ?_) ?_
  ·rcases List.mem_append.1 hz with hz | hz
   ·exact hl z (List.mem_append_left _ (zxaf.1 hz).1)
   ·exact hl z (List.mem_append_right _ hz)
  ·have:(grp κ c.key Fs).length ≤ Fs.length:=List.length_filter_le ..;rw [List.length_append] at hn ⊢;omega
theorem zxbf {ni nn:Nat} {κ:Ce → Int} {r:Ce → Ce} {g:Ce → List Ce} {Inv:List Ce → List Ce → Prop} (hI:Stays r Inv):∀ (cs:List Ce) {L Fs:List Ce},RepL ni nn κ L Fs → Inv L cs → (∀ c ∈ cs,Rep ni nn (r c) (g c) ∧ CeW (r c) ∧ ∀ f ∈ g c,κ f = (r c).key) →
  (∀ q,OkG ni (grp κ q (Fs ++ cs.flatMap g))) → (∀ z ∈ Fs ++ cs.flatMap g,Lf ni nn z) → (Fs ++ cs.flatMap g).length ≤ 1000 → (foldC L (cs.map r)).1 = 0
 | [],L,Fs,h,_,_,_,_,_ => rfl
 | c :: cs,L,Fs,h,hi,hc,ho,hl,hN => by
  obtain ⟨c1,c2,c3⟩:=hc c (List.mem_cons_self ..);obtain ⟨i1,i2⟩:=hI L c cs hi;rw [List.flatMap_cons,← List.append_assoc] at ho hl hN;have hw:(withL L (r c)).1 = 0:=by
   refine zxci h c1 c3 ((ho _).sub (nn:=nn) ((List.sublist_append_left _ _).filter _) fun z hz => hl z (List.mem_filter.1 hz).1) (fun z hz => hl z (List.mem_append_left _ hz)) ?_
   rw [List.length_append] at hN;omega
  rw [List.map_cons];unfold foldC;rw [if_pos hw];exact zxbf hI cs (h.with i1 c1 c2 c3 hw) (i2 hw) (fun d hd => hc d (List.mem_cons_of_mem _ hd)) ho hl hN
theorem RepL.ok {ni nn:Nat} {κ:Ce → Int} {L Fs:List Ce} (h:RepL ni nn κ L Fs) (hw:∀ c ∈ L,CeW c) (q:Int):OkG ni (grp κ q Fs):=by
 by_cases e:∃ c ∈ L,c.key = q
 ·obtain ⟨c,hc,rfl⟩:=e;exact (h.c c hc).okG (hw c hc)
 ·rw [zxap fun f hf e2 => e (by
   obtain ⟨c,hc,e3⟩:=h.a f hf;exact ⟨c,hc,e3.trans e2⟩)]
  intro k hk;rw [zxbc]
  decide
theorem zxa2 {p q:Ce → Bool} (hpq:∀ x,p x = true → q x = true → False):∀ l:List Ce,(l.filter fun x => p x || q x).Perm (l.filter p ++ l.filter q)
 | [] => List.Perm.nil
 | a :: l => by
  have ih:=zxa2 hpq l
  by_cases hp:p a = true
  ·have hq:q a = false:=by
    cases e:q a with
    | false => rfl
    | true => exact (hpq a hp e).elim
   rw [List.filter_cons_of_pos (by rw [hp]; rfl),List.filter_cons_of_pos hp,List.filter_cons_of_neg (by rw [hq]; decide),List.cons_append]
   exact ih.cons a
  ·have hp':p a = false:=eq_false_of_ne_true hp
   by_cases hq:q a = true
   ·rw [List.filter_cons_of_pos (by rw [hp',hq]; rfl),List.filter_cons_of_neg hp,List.filter_cons_of_pos hq]
    exact (ih.cons a).trans List.perm_middle.symm
   ·rw [List.filter_cons_of_neg (by rw [hp',eq_false_of_ne_true hq]; decide),List.filter_cons_of_neg hp,List.filter_cons_of_neg hq]
    exact ih
theorem zxao {κ:Ce → Int} (Fs:List Ce):∀ L:List Ce,risingC L → (L.flatMap fun c => grp κ c.key Fs).Perm (Fs.filter fun f => L.any fun c => decide (κ f = c.key))
 | [],_ => by simp
 | c :: L,h => by
  rw [List.flatMap_cons];have ih:=zxao (κ:=κ) Fs L (zqbn h);have e:(Fs.filter fun f => (c :: L).any fun c => decide (κ f = c.key)) = Fs.filter fun f => decide (κ f = c.key) || L.any fun c => decide (κ f = c.key):=by simp [List.any_cons]
  rw [e];refine (List.Perm.append_left _ ih).trans (zxa2 (fun x hp hq => ?_) Fs).symm
  obtain ⟨d,hd,e2⟩:=List.any_eq_true.1 hq;have h1:=of_decide_eq_true hp;have h2:=of_decide_eq_true e2;have:=zqaz h d hd;omega
theorem RepL.groups {ni nn:Nat} {κ:Ce → Int} {L Fs:List Ce} (h:RepL ni nn κ L Fs):(L.flatMap fun c => grp κ c.key Fs).Perm Fs:=by
 have h1:=zxao (κ:=κ) Fs L h.r;rw [List.filter_eq_self.2 fun f hf => by
  obtain ⟨c,hc,e⟩:=h.a f hf;exact List.any_eq_true.2 ⟨c,hc,decide_eq_true e.symm⟩] at h1
 exact h1
theorem zxb5:∀ {l m:List Int},l.Pairwise (fun a b => a < b) → m.Pairwise (fun a b => a < b) → (∀ x,x ∈ l ↔ x ∈ m) → l = m:=fun {l m} hl hm h => by
 have nl:l.Nodup:=hl.imp (S:=(· ≠ ·)) (fun {a b} h e => by omega)
 have nm:m.Nodup:=hm.imp (S:=(· ≠ ·)) (fun {a b} h e => by omega)
 have hp:l.Perm m:=(List.perm_ext_iff_of_nodup nl nm).2 h;exact hp.eq_of_pairwise (fun a b _ _ h1 h2 => absurd (Int.lt_trans h1 h2) (Int.lt_irrefl a)) hl hm
theorem RepL.keys {ni nn:Nat} {κ:Ce → Int} {L Fs:List Ce} (h:RepL ni nn κ L Fs) (q:Int):q ∈ L.map (fun c => c.key) ↔ ∃ f ∈ Fs,κ f = q:=by
 constructor
 ·intro hq;obtain ⟨c,hc,rfl⟩:=List.mem_map.1 hq;obtain ⟨f,hf⟩:=List.exists_mem_of_ne_nil _ (h.c c hc).ne;obtain ⟨h1,h2⟩:=zxaf.1 hf;exact ⟨f,h1,h2⟩
 ·rintro ⟨f,hf,rfl⟩;obtain ⟨c,hc,e⟩:=h.a f hf;exact List.mem_map.2 ⟨c,hc,e⟩
theorem RepL.same {ni nn:Nat} {κ:Ce → Int} {L M Fs:List Ce} (h:RepL ni nn κ L Fs) (k:RepL ni nn κ M Fs):eqsC L M = true:=by
 have e:L.map (fun c => c.key) = M.map (fun c => c.key):=zxb5 (List.pairwise_map.2 h.r) (List.pairwise_map.2 k.r) fun q => by rw [h.keys,k.keys]
 have hl:L.length = M.length:=by have:=congrArg List.length e; simpa using this
 unfold eqsC;rw [decide_eq_true hl,Bool.true_and,List.all_eq_true];intro i hi;have hi1:i < L.length:=by simpa using hi
 have hi2:i < M.length:=by omega
 have ek:L[i].key = M[i].key:=by
  have h1:(L.map (fun c => c.key))[i]? = (M.map (fun c => c.key))[i]?:=by rw [e]
  rw [List.getElem?_map,List.getElem?_map,List.getElem?_eq_getElem hi1,List.getElem?_eq_getElem hi2] at h1;simpa using h1
 rw [zqat hi1,zqat hi2];have h1:=h.c L[i] (List.getElem_mem hi1);have h2:=k.c M[i] (List.getElem_mem hi2);rw [← ek] at h2;exact h1.same h2 ek
theorem zxca {S:Sc} {m b:Int} {l:List Int} (h1:ofE S m l = 0) (h2:ofE S b l = 0) (hs:subM b m = true) (b0:0 ≤ b) (b1:b ≤ 4294967295):downL S m b (ofL S m l) = ofL S b l:=by
 obtain ⟨n1,-,i1⟩:=zqz8 h1;have hz:=(zqeb (zqg5 n1).1).2;have hr:=zxb4 hz i1;have e1:ofL S m l = keyG (dz S.ds) (cz l) (bitG m) S.ds.length:=if_pos h1;have e2:ofL S b l = keyG (dz S.ds) (cz l) (bitG b) S.ds.length:=if_pos h2;have hd:downE S m b (ofL S m l) = 0:=by
  unfold downE;rw [if_pos n1,if_pos hs,if_neg (by rw [e1]; omega)]
 unfold downL;rw [if_pos hd,e1,e2];unfold downG;exact zqjb fun k hk hp => zq0c (zqdg hz) i1 hk ((zqg8 b0 b1).1 hs k hp)
theorem zxce {S:Sc} {m b:Int} {f:Fa} (h:oneE S m f = 0) (hb:b ≤ m):oneE S b f = 0:=by
 obtain ⟨h1,h2,h3,-⟩:=zqpp h;have hm:=(zqg5 (zqz8 h3).1).2;rw [zxbh h1 hm] at h;rw [zxbh h1 (by omega)]
 exact h
theorem zxb0 {S:Sc} {m b:Int} {f:Fa} (hf:FaWf f) (h:oneE S m f = 0) (hs:subM b m = true) (m0:0 ≤ m) (b0:0 ≤ b) (b1:b ≤ 4294967295):celC S b f = rkC S m b (celC S m f):=by
 have ho:=zxau (S:=S) (m:=m) hf;have h2:=zxce h (zxa1 b0 b1 m0 hs);refine (zqka (show OC S b f (rkC S m b (celC S m f)) from ⟨?_,ho.cnt,ho.li,ho.ln,ho.is,ho.ns⟩)).symm;show downL S m b (celC S m f).key = _
 rw [ho.key];exact zxca (zqpp h).2.2.1 (zqpp h2).2.2.1 hs b0 b1
theorem zxcc (x:Nat):flagN x < 32:=by
 unfold flagN
 split
 ·decide
 ·split
  ·split <;> decide
  ·split
   ·split <;> decide
   ·decide
theorem zxb6 {S:Sc} {m:Int} {f:Fa} (hf:FaWf f) (h:oneE S m f = 0):rightC S m (celC S m f) = true ∧ Sv 1 (celC S m f) ∧ Lf S.is.length S.ns.length (celC S m f):=by
 have ho:=zxau (S:=S) (m:=m) hf;have hr:=ho.right hf h;have hv:=ho.sv hf h;refine ⟨hr,hv,?_⟩;have hp:=zxaz hr hv.1;refine ⟨hp.li,hp.ln,ho.cnt,fun k hk => ?_,fun k hk => ?_,fun k hk => by have:=(zxbw hf h).2.2 k (by rw [hp.li]; exact hk); omega⟩
 ·have h1:=ho.is k (by rw [← ho.li,hp.li]; exact hk)
  rw [h1.sum,h1.abs];omega
 ·have hk2:k < f.ns.length:=by rw [← ho.ln,hp.ln]; exact hk
  have h1:=ho.ns k hk2;have e:=zqyf (zqxf (hp.bt k hk) (hp.er k hk)) h1.sum (zqea _) (zxcc _);rw [e.2];exact zqkx _ (zqd4 (P:=W64) hf.n hk2)
theorem zxa5 {S:Sc} {m:Int}:∀ (l:List Fa) (acc:List Ce),(foldF S m acc l).1 = 0 → ∀ f ∈ l,oneE S m f = 0
 | [],acc,_ => fun f hf => nomatch hf
 | f :: l,acc,h => by
  unfold foldF at h
  by_cases h0:oneE S m f = 0
  ·rw [if_pos h0] at h
   by_cases h1:(withL acc (celC S m f)).1 = 0
   ·rw [if_pos h1] at h;intro g hg;rcases List.mem_cons.1 hg with rfl | hg
    ·exact h0
    ·exact zxa5 l _ h g hg
   ·rw [if_neg h1] at h; exact absurd h h1
  ·rw [if_neg h0] at h; exact absurd h h0
theorem zxaj {S:Sc} {m:Int}:∀ (l:List Fa) (acc:List Ce),(∀ f ∈ l,oneE S m f = 0) → foldF S m acc l = foldC acc (l.map (celC S m))
 | [],acc,_ => rfl
 | f :: l,acc,h => by
  unfold foldF;rw [List.map_cons];unfold foldC;rw [if_pos (h f (List.mem_cons_self ..))]
  by_cases h1:(withL acc (celC S m f)).1 = 0
  ·rw [if_pos h1,if_pos h1];exact zxaj l _ fun g hg => h g (List.mem_cons_of_mem _ hg)
  ·rw [if_neg h1,if_neg h1]
structure FoldOk (S:Sc) (m:Int) (l:List Fa):Prop where
 ck:checkL S = 0
 ms:m ≤ fullL S.ds
 le:l.length ≤ 200
 on:∀ f ∈ l,oneE S m f = 0
 fw:∀ f ∈ l,FaWf f
theorem zxad {S:Sc} {m:Int} {l:List Fa} (hf:∀ f ∈ l,FaWf f) (h:(foldE S m l).1 = 0):FoldOk S m l:=by
 unfold foldE at h
 by_cases h1:checkL S = 0
 ·rw [if_pos h1] at h
  by_cases h2:m ≤ fullL S.ds
  ·rw [if_pos h2] at h
   by_cases h3:l.length ≤ 200
   ·rw [if_pos h3] at h;exact ⟨h1,h2,h3,zxa5 l _ h,hf⟩
   ·rw [if_neg h3] at h; cases h
  ·rw [if_neg h2] at h; cases h
 ·rw [if_neg h1] at h; cases h
theorem FoldOk.is {S:Sc} {m:Int} {l:List Fa} (h:FoldOk S m l):foldE S m l = foldC [] ((l.map (celC S m)).map id):=by
 unfold foldE;rw [if_pos h.ck,if_pos h.ms,if_pos h.le,zxaj l _ h.on,List.map_id]
theorem FoldOk.sub {S:Sc} {m:Int} {l k:List Fa} (h:FoldOk S m l) (hk:∀ f ∈ k,f ∈ l) (hn:k.length ≤ l.length):FoldOk S m k :=
 ⟨h.ck,h.ms,Nat.le_trans hn h.le,fun f hf => h.on f (hk f hf),fun f hf => h.fw f (hk f hf)⟩
theorem FoldOk.leaf {S:Sc} {m:Int} {l:List Fa} (h:FoldOk S m l):∀ c ∈ l.map (celC S m),rightC S m c = true ∧ Sv 1 c ∧ Lf S.is.length S.ns.length c:=fun c hc => by
 obtain ⟨f,hf,rfl⟩:=List.mem_map.1 hc;exact zxb6 (h.fw f hf) (h.on f hf)
theorem singles (l:List Ce):l.flatMap (fun c => [c]) = l:=by
 induction l with
 | nil => rfl
 | cons a l ih => rw [List.flatMap_cons,ih]; rfl
theorem FoldOk.groups {S:Sc} {m:Int} {l:List Fa} (h:FoldOk S m l):∀ c ∈ l.map (celC S m),Rep S.is.length S.ns.length (id c) [c] ∧ CeW (id c) ∧ ∀ f ∈ [c],f.key = (id c).key:=fun c hc => by
 obtain ⟨h1,h2,-⟩:=h.leaf c hc;exact ⟨zxaz h1 h2.1,h2.1,fun f hf => by rw [List.mem_singleton.1 hf]; rfl⟩
theorem FoldOk.inv {S:Sc} {m:Int} {l:List Fa} (h:FoldOk S m l):InvS id [] (l.map (celC S m)) :=
 ⟨1,Nat.le_refl _,by rw [List.length_map]; have:=h.le; omega,(fun x hx => nomatch hx),fun c hc => (h.leaf c hc).2.1⟩
theorem FoldOk.rep {S:Sc} {m:Int} {l:List Fa} (h:FoldOk S m l) (he:(foldE S m l).1 = 0):RepL S.is.length S.ns.length (fun c => c.key) (foldE S m l).2 (l.map (celC S m)):=by
 rw [h.is] at he ⊢;have:=(RepL.fold (invS id) (g:=fun c => [c]) (l.map (celC S m)) (RepL.nil S.is.length S.ns.length fun c => c.key) h.inv h.groups he).1
 rw [List.nil_append,singles] at this;exact this
end Go.Proofs.YtmnbljijnbhghaaGreatDoor
