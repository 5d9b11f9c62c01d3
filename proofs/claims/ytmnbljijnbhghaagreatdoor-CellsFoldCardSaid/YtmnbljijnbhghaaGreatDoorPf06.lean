/- Contracts that the law leans on: Cemm Celi Cemn. -/
import Derived.Deep.AppendLies
import Derived.Deep.RegionHeld3
import Derived.BigQuiet
import Derived.Deep.QuietTactic
import Derived.Lib.ItoaNum
import Derived.OwnWalk
import Derived.Deep.RegionLawGrows
import Derived.Laws.FloatArith
import Derived.WalkLawsBesides
import Derived.Laws.Externs
import Derived.Laws.BitsAllLaws
import Derived.Lib.Hide
import Derived.Shelf.Spec.TrailingZeros
import Derived.Laws.Bits64b
import Derived.Lib.BitFns
import Derived.Lib.Small
import Derived.Lib.Strings
import Derived.Lib.Slices
import Derived.Lib.Walk
import Derived.WalkKit
import Derived.WalkSpells
import Derived.WalkSmall
import Derived.Laws.Bits64
import Derived.Deep.Draws
import Derived.Deep.DeepCutAuto
import Derived.Laws.BytesArg
import Derived.Deep.LoopGhost
import Derived.Deep.RegionLaw
import Derived.Outline
import Derived.Deep.RegionWith
import Derived.RegionTactic
import Derived.ChangeAlike
import Derived.Laws.IdiomStrings
import Derived.ProofKit
import Derived.LaidMore
import Derived.OpenShut
import Derived.Stop.Joined
import Derived.Lib.LaidTab
import Derived.ChangeSlices
import Derived.Deep.CutBlock
import Derived.Deep.RegionHeld
import Derived.Deep.DrawnRows
import Derived.Lib.AppendZeros
import Derived.Maps.OwnSet
import Derived.Below
import Derived.SliceStrings
import Derived.Deep.CutRange
import Derived.Deep.Slices
import Derived.Deep.Fields
import Derived.ChangeSame
import Derived.Lib.SmallJoins
import Derived.Lib.Bytealg
import Derived.Lib.ConvBytes
import Derived.Laws.CopyRow
import Derived.Laws.IdiomCopy
import Derived.Laws.OwnMore
import Derived.Laws.MakeOwn
import Derived.Maps.Ext
import Derived.Maps.RangeWalk
import Derived.Sort.OwnSorted
import Derived.Shelf.SlSortCmp.WholeK
import Derived.Shelf.SlSortCmp.NoneTotal
import Derived.Test.YtmnbljijnbhghaaGreatDoorProg
import Derived.Test.YtmnbljijnbhghaaGreatDoorRows
import Derived.Test.YtmnbljijnbhghaaGreatDoorPf01
import Derived.Test.YtmnbljijnbhghaaGreatDoorPf02
import Derived.Test.YtmnbljijnbhghaaGreatDoorPf03
import Derived.Test.YtmnbljijnbhghaaGreatDoorPf04
import Derived.Test.YtmnbljijnbhghaaGreatDoorPf05
import Derived.Test.YtmnbljijnbhghaaGreatDoorPt01
import Derived.Test.YtmnbljijnbhghaaGreatDoorPt02
import Derived.Test.YtmnbljijnbhghaaGreatDoorPt03
import Derived.Test.YtmnbljijnbhghaaGreatDoorPt04
import Derived.Test.YtmnbljijnbhghaaGreatDoorPt05
import Derived.Test.YtmnbljijnbhghaaGreatDoorPt06
import Derived.Test.YtmnbljijnbhghaaGreatDoorPt07
import Derived.Test.YtmnbljijnbhghaaGreatDoorPt08
import Derived.Test.YtmnbljijnbhghaaGreatDoorPt09
import Derived.Test.YtmnbljijnbhghaaGreatDoorPt10
import Derived.Test.YtmnbljijnbhghaaGreatDoorPt11
import Derived.Test.YtmnbljijnbhghaaGreatDoorPt12
import Derived.Test.YtmnbljijnbhghaaGreatDoorPt13
import Derived.Test.YtmnbljijnbhghaaGreatDoorPt14
import Derived.Test.YtmnbljijnbhghaaGreatDoorPt15
import Derived.Test.YtmnbljijnbhghaaGreatDoorPt16
import Derived.Test.YtmnbljijnbhghaaGreatDoorPt17
import Derived.Test.YtmnbljijnbhghaaGreatDoorPt18
import Derived.Test.YtmnbljijnbhghaaGreatDoorPt19
import Derived.Test.YtmnbljijnbhghaaGreatDoorPt20
import Derived.Test.YtmnbljijnbhghaaGreatDoorPt21
import Derived.Test.YtmnbljijnbhghaaGreatDoorPt22
import Derived.Test.YtmnbljijnbhghaaGreatDoorPt23
import Derived.Test.YtmnbljijnbhghaaGreatDoorPt24
import Derived.Test.YtmnbljijnbhghaaGreatDoorPt25
import Derived.Test.YtmnbljijnbhghaaGreatDoorPt26
import Derived.Test.YtmnbljijnbhghaaGreatDoorPt27
import Derived.Test.YtmnbljijnbhghaaGreatDoorPt28
import Derived.Test.YtmnbljijnbhghaaGreatDoorPt29
import Derived.Test.YtmnbljijnbhghaaGreatDoorPt30
import Derived.Test.YtmnbljijnbhghaaGreatDoorPt31
import Derived.Test.YtmnbljijnbhghaaGreatDoorPt32
import Derived.Test.YtmnbljijnbhghaaGreatDoorPt33
namespace Go.Proofs.YtmnbljijnbhghaaGreatDoor
set_option maxRecDepth 100000
open Go.RowKit
set_option linter.unusedVariables false
def Fv (S:Sc) (m:Int) (n:Nat) (c:Ce):Prop:=Sv n c ∧ rightC S m c = true ∧ ∀ k,k < c.is.length → wv (wg c.is k).sq ≤ n * 85070591730234615865843651857942052864
theorem Fv.mono {S:Sc} {m:Int} {n k:Nat} {c:Ce} (h:Fv S m n c) (hk:n ≤ k):Fv S m k c :=
 ⟨h.1.mono hk,h.2.1,fun i hi => Int.le_trans (h.2.2 i hi) (Int.mul_le_mul_of_nonneg_right (by omega) (by decide))⟩
theorem zxbp {x:Int} (h:I64 x):x * x ≤ 85070591730234615865843651857942052864:=by
 have h1:x.natAbs ≤ 9223372036854775808:=by unfold I64 at h; omega
 have h2:=Nat.mul_le_mul h1 h1;have h3:=Int.natAbs_mul_self (a:=x);omega
theorem zxch {S:Sc} {m:Int} {f:Fa} (hf:FaWf f) (h0:oneE S m f = 0):Fv S m 1 (celC S m f):=by
 have ho:=zxb6 (S:=S) (m:=m) hf;refine ⟨ho.sv hf h0,ho.right hf h0,fun k hk => ?_⟩
 have hk2:k < f.is.length:=by rw [← ho.li]; exact hk
 rw [(ho.is k hk2).sq,Int.natCast_one,Int.one_mul];exact zxbp (zqd4 (P:=I64) hf.i hk2)
theorem zxb9 {S:Sc} {m:Int} {n:Nat} {a b:Ce} (ha:Fv S m n a) (hb:Fv S m 1 b) (hn:n ≤ 250) (e:errJ a b = 0):Fv S m (n + 1) (joinC a b):=by
 have hj:=zqk6 ha.1.1 hb.1.1 e;obtain ⟨q1,q2,q3,-⟩:=zqfp e;have hsq:∀ k,k < (joinC a b).is.length → wv (wg (joinC a b).is k).sq ≤ ((n + 1:Nat):Int) * 85070591730234615865843651857942052864:=fun k hk => by
  have hk2:k < a.is.length:=by rw [← hj.li]; exact hk
  have h1:=ha.2.2 k hk2;have h2:=hb.2.2 k (by omega)
  rw [(hj.is k hk2).sq];omega
 refine ⟨zqzm ha.1 hb.1 (by omega) e,hj.right e ha.1.1 hb.1.1 ha.2.1 hb.2.1 fun k hk => ?_,hsq⟩
 have hk2:k < a.is.length:=by rw [← hj.li]; exact hk
 have h3:=hsq k hk;have h4:=(hj.is k hk2).ty.wlen (hj.is k hk2).wd (n:=5) (by
  refine Int.lt_of_le_of_lt h3 ?_;have:((n + 1:Nat):Int) ≤ 251:=by omega
  exact Int.lt_of_le_of_lt (Int.mul_le_mul_of_nonneg_right this (by decide)) (by decide))
 omega
theorem zxa8 {S:Sc} {m:Int}:∀ {l:List Ce} {c:Ce} {n:Nat},(∀ x ∈ l,Fv S m n x) → Fv S m 1 c → 1 ≤ n → n ≤ 250 → ∀ x ∈ (withL l c).2,Fv S m (n + 1) x
 | [],c,n,_,hc,h1,_,x,hx => by
  obtain rfl:x = c:=by simpa [withL] using hx
  exact hc.mono (by omega)
 | y :: l,c,n,hl,hc,h1,hn,x,hx => by
  have hy:=hl y (List.mem_cons_self ..);have ih:=fun x => zxa8 (l:=l) (c:=c) (n:=n) (fun z hz => hl z (List.mem_cons_of_mem _ hz)) hc h1 hn x
  unfold withL at hx
  by_cases q:y.key < c.key
  ·rw [if_pos q] at hx
   by_cases e:(withL l c).1 = 0
   ·rw [if_pos e] at hx;rcases List.mem_cons.1 hx with rfl | hx
    ·exact hy.mono (by omega)
    ·exact ih x hx
   ·rw [if_neg e] at hx; cases hx
  ·rw [if_neg q] at hx
   by_cases q2:y.key = c.key
   ·rw [if_pos q2] at hx
    by_cases e:errJ y c = 0
    ·rw [if_pos e] at hx;rcases List.mem_cons.1 hx with rfl | hx
     ·exact zxb9 hy hc hn e
     ·exact (hl x (List.mem_cons_of_mem _ hx)).mono (by omega)
    ·rw [if_neg e] at hx; cases hx
   ·rw [if_neg q2] at hx;rcases List.mem_cons.1 hx with rfl | hx
    ·exact hc.mono (by omega)
    ·exact (hl x hx).mono (by omega)
theorem zxa3 {l:List Ce} {c:Ce} (hr:risingC l) (e:(withL l c).1 = 0):risingC (withL l c).2:=by
 cases hl:lookC l c.key with
 | none => exact (zqx1 hr (zqg3 hl)).2.2.1
 | some x =>
  obtain ⟨hx,hk⟩:=zqde hl;obtain ⟨i1,i2⟩:=zqir hr hx hk;exact (i2 (i1.symm.trans e)).2.1
theorem zxam {S:Sc} {m:Int}:∀ (l:List Fa) (acc:List Ce) (n:Nat),(∀ f ∈ l,FaWf f) → risingC acc → (∀ x ∈ acc,Fv S m n x) → 1 ≤ n → n + l.length ≤ 250 → (foldF S m acc l).1 = 0 →
  risingC (foldF S m acc l).2 ∧ ∀ x ∈ (foldF S m acc l).2,Fv S m (n + l.length) x
 | [],acc,n,_,hr,ha,_,_,_ => ⟨hr,fun x hx => (ha x hx).mono (by simp)⟩
 | f :: l,acc,n,hf,hr,ha,h1,hn,he => by
  simp only [List.length_cons] at hn;unfold foldF at he ⊢
  by_cases h0:oneE S m f = 0
  ·rw [if_pos h0] at he ⊢
   by_cases hw:(withL acc (celC S m f)).1 = 0
   ·rw [if_pos hw] at he ⊢;have hc:=zxch (m:=m) (hf f (List.mem_cons_self ..)) h0;have ih:=zxam l _ (n + 1) (fun g hg => hf g (List.mem_cons_of_mem _ hg)) (zxa3 hr hw) (zxa8 ha hc h1 (by omega)) (by omega) (by omega) he
    exact ⟨ih.1,fun x hx => (ih.2 x hx).mono (by simp only [List.length_cons]; omega)⟩
   ·rw [if_neg hw] at he; exact absurd he hw
  ·rw [if_neg h0] at he; exact absurd he h0
theorem zxal {S:Sc} {m:Int} {l:List Fa} (hf:∀ f ∈ l,FaWf f) (he:(foldE S m l).1 = 0):rightL S m (foldE S m l).2 = true ∧ ∀ x ∈ (foldE S m l).2,Sv 250 x:=by
 unfold foldE at he ⊢
 by_cases h1:checkL S = 0
 ·rw [if_pos h1] at he ⊢
  by_cases h2:m ≤ fullL S.ds
  ·rw [if_pos h2] at he ⊢
   by_cases h3:l.length ≤ 200
   ·rw [if_pos h3] at he ⊢;obtain ⟨i1,i2⟩:=zxam (m:=m) l [] 1 hf List.Pairwise.nil (fun x hx => nomatch hx) (by omega) (by omega) he
    exact ⟨zqfz.2 ⟨⟨h1,h2⟩,zxbd.2 i1,fun i hi => by rw [zqat hi]; exact (i2 _ (List.getElem_mem hi)).2.1⟩,fun x hx => ((i2 x hx).mono (by omega)).1⟩
   ·rw [if_neg h3] at he; cases he
  ·rw [if_neg h2] at he; cases he
 ·rw [if_neg h1] at he; cases he
theorem zqju (a:Ce):sameC a a = true:=same_iff.2 ⟨rfl,rfl,rfl,rfl,fun k _ => by simp [sameWh],fun k _ => by simp [sameRe,zqut]⟩
theorem zqsr (l:List Ce):eqsC l l = true:=by
 unfold eqsC;rw [decide_eq_true rfl,Bool.true_and];exact List.all_eq_true.2 fun x hx => zqju _
theorem zxbu {H:Type} {enc:TypeId × Value → H} {w:World} {base:Nat} {spare:Nat → Bool} {held:Bool} {v:Value} {d:DataW H} {p:List MemPlace}
  (h:DataW.Trod enc Tryz.prog w base spare held 47 v d p) (hs:∃ a l c,v = .slice a l c):∃ l,Facts w v l ∧ ∀ f ∈ l,FaWf f :=
 zxbj Tryz.underlying47 (by kernel_rfl)
  (fun h => zxbc Tryz.underlying73 (by kernel_rfl) rfl rfl rfl Tryz.underlying69 Tryz.underlying70 Tryz.underlying71 (by kernel_rfl) (by kernel_rfl) (by kernel_rfl)
   Tryz.underlying3 Tryz.underlying2 Tryz.underlying88 (by kernel_rfl) (by kernel_rfl) (by kernel_rfl) h) h hs
def LisP (w:World) (R:Nat × List Ce) (e:Ending) (w':World):Prop:=∃ a n c,e = .returned (.tuple #[.slice a n c,.int .i64 R.1]) ∧ n = R.2.length ∧ Cells w' (.slice a n c) R.2 ∧ Below w.heap.size w w'
theorem RollP.lis {w w':World} {R:Nat × List Ce} {e:Ending} (h:RollP w R e w'):LisP w R e w':=by
 obtain ⟨r,ps,rfl,hr,hp,hb⟩:=h;obtain ⟨a,c,rfl⟩:=hr.any;have hc:=hr.cells;rw [hp] at hc;exact ⟨a,_,c,rfl,by rw [← hp,List.length_map],hc,hb⟩
theorem FoldR.lis {w w':World} {R:Nat × List Ce} {e:Ending} (h:FoldR w R e w'):LisP w R e w':=by
 obtain ⟨r,ps,rfl,hr,hp,hb⟩:=h;obtain ⟨a,c,rfl⟩:=hr.any;have hc:=hr.cells;rw [hp] at hc;exact ⟨a,_,c,rfl,by rw [← hp,List.length_map],hc,hb⟩
theorem zxat {S:Sc} {m:Int}:∀ (l:List Fa) (acc:List Ce),¬ (foldF S m acc l).1 = 0 → (foldF S m acc l).2 = []
 | [],acc,h => absurd rfl h
 | f :: l,acc,h => by
  unfold foldF at h ⊢
  by_cases h0:oneE S m f = 0
  ·rw [if_pos h0] at h ⊢
   by_cases h1:(withL acc (celC S m f)).1 = 0
   ·rw [if_pos h1] at h ⊢;exact zxat l _ h
   ·rw [if_neg h1]
  ·rw [if_neg h0]
theorem zxbk {S:Sc} {m:Int} {l:List Fa} (h:¬ (foldE S m l).1 = 0):(foldE S m l).2 = []:=by
 unfold foldE at h ⊢
 by_cases h1:checkL S = 0
 ·rw [if_pos h1] at h ⊢
  by_cases h2:m ≤ fullL S.ds
  ·rw [if_pos h2] at h ⊢
   by_cases h3:l.length ≤ 200
   ·rw [if_pos h3] at h ⊢;exact zxat l _ h
   ·rw [if_neg h3]
  ·rw [if_neg h2]
 ·rw [if_neg h1]
theorem zxb7 {S:Sc} {m:Int} {l:List Fa} (hf:∀ f ∈ l,FaWf f):LsW (foldE S m l).2:=by
 by_cases h:(foldE S m l).1 = 0
 ·exact fun c hc => ((zxal hf h).2 c hc).1
 ·rw [zxbk h];exact fun c hc => nomatch hc
theorem Facts.len {w:World} {v:Value} {l:List Fa} (h:Facts w v l):∃ a c,v = .slice a l.length c:=by
 obtain ⟨a,c,rfl,-⟩:=h;exact ⟨a,c,rfl⟩
end Go.Proofs.YtmnbljijnbhghaaGreatDoor
