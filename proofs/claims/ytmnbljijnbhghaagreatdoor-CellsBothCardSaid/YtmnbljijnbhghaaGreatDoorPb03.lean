/- Contracts that the law leans on: Cems Cemt Cemv Cemy Cemw Celh Cemz. -/
import Derived.Deep.AppendLies
import Derived.Deep.RegionHeld3
import Derived.BigQuiet
import Derived.Deep.QuietTactic
import Derived.Lib.ItoaNum
import Derived.OwnWalk
import Derived.Deep.RegionLawGrows
import Derived.Laws.FloatArith
import Derived.WalkLawsBesides
import Derived.Laws.Externs
import Derived.Laws.BitsAllLaws
import Derived.Lib.Hide
import Derived.Shelf.Spec.TrailingZeros
import Derived.Laws.Bits64b
import Derived.Lib.BitFns
import Derived.Lib.Small
import Derived.Lib.Strings
import Derived.Lib.Slices
import Derived.Lib.Walk
import Derived.WalkKit
import Derived.WalkSpells
import Derived.WalkSmall
import Derived.Laws.Bits64
import Derived.Deep.Draws
import Derived.Deep.DeepCutAuto
import Derived.Laws.BytesArg
import Derived.Deep.LoopGhost
import Derived.Deep.RegionLaw
import Derived.Outline
import Derived.Deep.RegionWith
import Derived.RegionTactic
import Derived.ChangeAlike
import Derived.Laws.IdiomStrings
import Derived.ProofKit
import Derived.LaidMore
import Derived.OpenShut
import Derived.Stop.Joined
import Derived.Lib.LaidTab
import Derived.ChangeSlices
import Derived.Deep.CutBlock
import Derived.Deep.RegionHeld
import Derived.Deep.DrawnRows
import Derived.Lib.AppendZeros
import Derived.Maps.OwnSet
import Derived.Below
import Derived.SliceStrings
import Derived.Deep.CutRange
import Derived.Deep.Slices
import Derived.Deep.Fields
import Derived.ChangeSame
import Derived.Lib.SmallJoins
import Derived.Lib.Bytealg
import Derived.Lib.ConvBytes
import Derived.Laws.CopyRow
import Derived.Laws.IdiomCopy
import Derived.Laws.OwnMore
import Derived.Laws.MakeOwn
import Derived.Maps.Ext
import Derived.Maps.RangeWalk
import Derived.Sort.OwnSorted
import Derived.Shelf.SlSortCmp.WholeK
import Derived.Shelf.SlSortCmp.NoneTotal
import Derived.Test.YtmnbljijnbhghaaGreatDoorProg
import Derived.Test.YtmnbljijnbhghaaGreatDoorRows
import Derived.Test.YtmnbljijnbhghaaGreatDoorPb01
import Derived.Test.YtmnbljijnbhghaaGreatDoorPb02
import Derived.Test.YtmnbljijnbhghaaGreatDoorPt01
import Derived.Test.YtmnbljijnbhghaaGreatDoorPt02
import Derived.Test.YtmnbljijnbhghaaGreatDoorPt03
import Derived.Test.YtmnbljijnbhghaaGreatDoorPt04
import Derived.Test.YtmnbljijnbhghaaGreatDoorPt05
import Derived.Test.YtmnbljijnbhghaaGreatDoorPt06
import Derived.Test.YtmnbljijnbhghaaGreatDoorPt07
import Derived.Test.YtmnbljijnbhghaaGreatDoorPt08
import Derived.Test.YtmnbljijnbhghaaGreatDoorPt09
import Derived.Test.YtmnbljijnbhghaaGreatDoorPt10
import Derived.Test.YtmnbljijnbhghaaGreatDoorPt11
import Derived.Test.YtmnbljijnbhghaaGreatDoorPt12
import Derived.Test.YtmnbljijnbhghaaGreatDoorPt13
import Derived.Test.YtmnbljijnbhghaaGreatDoorPt14
import Derived.Test.YtmnbljijnbhghaaGreatDoorPt15
import Derived.Test.YtmnbljijnbhghaaGreatDoorPt16
import Derived.Test.YtmnbljijnbhghaaGreatDoorPt17
import Derived.Test.YtmnbljijnbhghaaGreatDoorPt18
import Derived.Test.YtmnbljijnbhghaaGreatDoorPt19
import Derived.Test.YtmnbljijnbhghaaGreatDoorPt20
import Derived.Test.YtmnbljijnbhghaaGreatDoorPt21
import Derived.Test.YtmnbljijnbhghaaGreatDoorPt22
import Derived.Test.YtmnbljijnbhghaaGreatDoorPt23
import Derived.Test.YtmnbljijnbhghaaGreatDoorPt24
import Derived.Test.YtmnbljijnbhghaaGreatDoorPt25
import Derived.Test.YtmnbljijnbhghaaGreatDoorPt26
import Derived.Test.YtmnbljijnbhghaaGreatDoorPt27
import Derived.Test.YtmnbljijnbhghaaGreatDoorPt28
import Derived.Test.YtmnbljijnbhghaaGreatDoorPt29
import Derived.Test.YtmnbljijnbhghaaGreatDoorPt30
import Derived.Test.YtmnbljijnbhghaaGreatDoorPt31
import Derived.Test.YtmnbljijnbhghaaGreatDoorPt32
import Derived.Test.YtmnbljijnbhghaaGreatDoorPt33
namespace Go.Proofs.YtmnbljijnbhghaaGreatDoor
set_option maxRecDepth 100000
open Go.RowKit
set_option linter.unusedVariables false
def sumZ {α:Type} (f:α → Int) (l:List α):Int:=(l.map f).sum
theorem zxbm {α:Type} (f:α → Int):sumZ f [] = 0:=rfl
theorem zxaa {α:Type} (f:α → Int) (a:α) (l:List α):sumZ f (a :: l) = f a + sumZ f l:=by simp [sumZ]
theorem zxaf {α:Type} (f:α → Int) (l m:List α):sumZ f (l ++ m) = sumZ f l + sumZ f m:=by simp [sumZ]
theorem zxac {α:Type} (f:α → Int) {l m:List α} (h:l.Perm m):sumZ f l = sumZ f m:=by
 induction h with
 | nil => rfl
 | cons x _ ih => rw [zxaa,zxaa,ih]
 | swap x y l => rw [zxaa,zxaa,zxaa,zxaa]; omega
 | trans _ _ h1 h2 => exact h1.trans h2
theorem zxce {α:Type} {f:α → Int} {l m:List α} (h:l.Sublist m) (h0:∀ x ∈ m,0 ≤ f x):sumZ f l ≤ sumZ f m:=by
 induction h with
 | slnil => exact Int.le_refl _
 | cons a _ ih =>
  rw [zxaa];have:=ih fun x hx => h0 x (List.mem_cons_of_mem _ hx)
  have:=h0 a (List.mem_cons_self ..);omega
 | cons_cons a _ ih =>
  rw [zxaa,zxaa];have:=ih fun x hx => h0 x (List.mem_cons_of_mem _ hx)
  omega
def LeZ {α:Type} (f:α → Int) (l:List α) (z:Int):Prop:=(∃ x ∈ l,f x = z) ∧ ∀ x ∈ l,z ≤ f x
def GeZ {α:Type} (f:α → Int) (l:List α) (z:Int):Prop:=(∃ x ∈ l,f x = z) ∧ ∀ x ∈ l,f x ≤ z
theorem LeZ.one {α:Type} {f:α → Int} {l m:List α} {y z:Int} (h:LeZ f l y) (k:LeZ f m z) (hm:∀ x,x ∈ l ↔ x ∈ m):y = z:=by
 obtain ⟨⟨a,ha,rfl⟩,h2⟩:=h;obtain ⟨⟨b,hb,rfl⟩,k2⟩:=k;have:=h2 b ((hm b).2 hb);have:=k2 a ((hm a).1 ha);omega
theorem GeZ.one {α:Type} {f:α → Int} {l m:List α} {y z:Int} (h:GeZ f l y) (k:GeZ f m z) (hm:∀ x,x ∈ l ↔ x ∈ m):y = z:=by
 obtain ⟨⟨a,ha,rfl⟩,h2⟩:=h;obtain ⟨⟨b,hb,rfl⟩,k2⟩:=k;have:=h2 b ((hm b).2 hb);have:=k2 a ((hm a).1 ha);omega
theorem LeZ.app {α:Type} {f:α → Int} {l m:List α} {y z v:Int} (h:LeZ f l y) (k:LeZ f m z) (hv:v = if z < y then z else y):LeZ f (l ++ m) v:=by
 obtain ⟨⟨a,ha,rfl⟩,h2⟩:=h;obtain ⟨⟨b,hb,rfl⟩,k2⟩:=k;rw [hv]
 by_cases q:f b < f a
 ·rw [if_pos q];refine ⟨⟨b,List.mem_append_right _ hb,rfl⟩,fun x hx => ?_⟩
  rcases List.mem_append.1 hx with hx | hx
  ·have:=h2 x hx; omega
  ·exact k2 x hx
 ·rw [if_neg q];refine ⟨⟨a,List.mem_append_left _ ha,rfl⟩,fun x hx => ?_⟩
  rcases List.mem_append.1 hx with hx | hx
  ·exact h2 x hx
  ·have:=k2 x hx; omega
theorem GeZ.app {α:Type} {f:α → Int} {l m:List α} {y z v:Int} (h:GeZ f l y) (k:GeZ f m z) (hv:v = if y < z then z else y):GeZ f (l ++ m) v:=by
 obtain ⟨⟨a,ha,rfl⟩,h2⟩:=h;obtain ⟨⟨b,hb,rfl⟩,k2⟩:=k;rw [hv]
 by_cases q:f a < f b
 ·rw [if_pos q];refine ⟨⟨b,List.mem_append_right _ hb,rfl⟩,fun x hx => ?_⟩
  rcases List.mem_append.1 hx with hx | hx
  ·have:=h2 x hx; omega
  ·exact k2 x hx
 ·rw [if_neg q];refine ⟨⟨a,List.mem_append_left _ ha,rfl⟩,fun x hx => ?_⟩
  rcases List.mem_append.1 hx with hx | hx
  ·exact h2 x hx
  ·have:=k2 x hx; omega
structure Rep (ni nn:Nat) (c:Ce) (G:List Ce):Prop where
 ne:G ≠ []
 li:c.is.length = ni
 ln:c.ns.length = nn
 cnt:c.cnt = sumZ (fun x => x.cnt) G
 sum:∀ k,k < ni → (wg c.is k).sum = sumZ (fun x => (wg x.is k).sum) G
 abs:∀ k,k < ni → (wg c.is k).abs = sumZ (fun x => (wg x.is k).abs) G
 sq:∀ k,k < ni → wv (wg c.is k).sq = sumZ (fun x => wv (wg x.is k).sq) G
 wd:∀ k,k < ni → Wd (wg c.is k).sq
 ty:∀ k,k < ni → Tidy (wg c.is k).sq
 mn:∀ k,k < ni → LeZ (fun x => (wg x.is k).mn) G (wg c.is k).mn
 mx:∀ k,k < ni → GeZ (fun x => (wg x.is k).mx) G (wg c.is k).mx
 bt:∀ k,k < nn → Bt5 (rg c.ns k).sum
 er:∀ k,k < nn → errN (rg c.ns k).sum = 0
 tt:∀ k,k < nn → readT (rg c.ns k).sum = sumZ (fun x => readT (rg x.ns k).sum) G
 fl:∀ k,k < nn → ∀ j,(readF (rg c.ns k).sum).testBit j = true ↔ ∃ x ∈ G,(readF (rg x.ns k).sum).testBit j = true
 kn:∀ k,k < nn → LeZ (fun x => keyI (rg x.ns k).mn) G (keyI (rg c.ns k).mn)
 kx:∀ k,k < nn → GeZ (fun x => keyI (rg x.ns k).mx) G (keyI (rg c.ns k).mx)
theorem Rep.key {ni nn:Nat} {c:Ce} {G:List Ce} (h:Rep ni nn c G) (q:Int):Rep ni nn ⟨q,c.cnt,c.is,c.ns⟩ G :=
 ⟨h.ne,h.li,h.ln,h.cnt,h.sum,h.abs,h.sq,h.wd,h.ty,h.mn,h.mx,h.bt,h.er,h.tt,h.fl,h.kn,h.kx⟩
theorem Rep.perm {ni nn:Nat} {c:Ce} {G H:List Ce} (h:Rep ni nn c G) (p:G.Perm H):Rep ni nn c H:=by
 have hm:∀ x,x ∈ G ↔ x ∈ H:=fun x => p.mem_iff
 refine ⟨fun e => h.ne (by rw [e] at p; exact p.eq_nil),h.li,h.ln,h.cnt.trans (zxac _ p),fun k hk => (h.sum k hk).trans (zxac _ p),fun k hk => (h.abs k hk).trans (zxac _ p),fun k hk => (h.sq k hk).trans (zxac _ p),h.wd,h.ty,fun k hk => ?_,fun k hk => ?_,h.bt,h.er,fun k hk => (h.tt k hk).trans (zxac _ p),fun k hk j => ?_,fun k hk => ?_,fun k hk => ?_⟩
 ·obtain ⟨⟨a,ha,e⟩,h2⟩:=h.mn k hk;exact ⟨⟨a,(hm a).1 ha,e⟩,fun x hx => h2 x ((hm x).2 hx)⟩
 ·obtain ⟨⟨a,ha,e⟩,h2⟩:=h.mx k hk;exact ⟨⟨a,(hm a).1 ha,e⟩,fun x hx => h2 x ((hm x).2 hx)⟩
 ·rw [h.fl k hk j];exact ⟨fun ⟨x,hx,q⟩ => ⟨x,(hm x).1 hx,q⟩,fun ⟨x,hx,q⟩ => ⟨x,(hm x).2 hx,q⟩⟩
 ·obtain ⟨⟨a,ha,e⟩,h2⟩:=h.kn k hk;exact ⟨⟨a,(hm a).1 ha,e⟩,fun x hx => h2 x ((hm x).2 hx)⟩
 ·obtain ⟨⟨a,ha,e⟩,h2⟩:=h.kx k hk;exact ⟨⟨a,(hm a).1 ha,e⟩,fun x hx => h2 x ((hm x).2 hx)⟩
theorem Rep.same {ni nn:Nat} {c d:Ce} {G:List Ce} (h:Rep ni nn c G) (k:Rep ni nn d G) (hk:c.key = d.key):sameC c d = true :=
 same_iff.2 {
  key:=hk
  cnt:=h.cnt.trans k.cnt.symm
  li:=h.li.trans k.li.symm
  ln:=h.ln.trans k.ln.symm
  is:=fun i hi => by
   have hi2:i < ni:=by rw [← h.li]; exact hi
   unfold sameWh;rw [(h.sum i hi2).trans (k.sum i hi2).symm,(h.abs i hi2).trans (k.abs i hi2).symm,(h.mn i hi2).one (k.mn i hi2) fun x => Iff.rfl,(h.mx i hi2).one (k.mx i hi2) fun x => Iff.rfl,zqbb (h.wd i hi2) (k.wd i hi2) (h.ty i hi2) (k.ty i hi2) ((h.sq i hi2).trans (k.sq i hi2).symm)]
   simp
  ns:=fun i hi => by
   have hi2:i < nn:=by rw [← h.ln]; exact hi
   have e1:readF (rg c.ns i).sum = readF (rg d.ns i).sum:=Nat.eq_of_testBit_eq fun j => by
    have h1:=h.fl i hi2 j;have h2:=k.fl i hi2 j
    by_cases q:∃ x ∈ G,(readF (rg x.ns i).sum).testBit j = true
    ·rw [h1.2 q,h2.2 q]
    ·rw [eq_false_of_ne_true fun e => q (h1.1 e),eq_false_of_ne_true fun e => q (h2.1 e)]
   have e2:=(h.tt i hi2).trans (k.tt i hi2).symm;have e3:=zqxf (h.bt i hi2) (h.er i hi2);rw [e1,e2] at e3;unfold sameRe sameB;rw [e3.unique (zqxf (k.bt i hi2) (k.er i hi2)),(h.kn i hi2).one (k.kn i hi2) fun x => Iff.rfl,(h.kx i hi2).one (k.kx i hi2) fun x => Iff.rfl]
   simp }
theorem zxcj {S:Sc} {m:Int} {c:Ce} (h:rightC S m c = true) (hw:CeW c):Rep S.is.length S.ns.length c [c]:=by
 have ht:=zxa2 h;unfold rightC validC at h;simp only [Bool.and_eq_true,decide_eq_true_eq] at h;obtain ⟨-,⟨⟨-,h3⟩,h4⟩,-⟩:=id h;obtain ⟨-,⟨⟨⟨-,h3⟩,h4⟩,h5⟩,h6⟩:=h;have he:∀ k,k < S.ns.length → errN (rg c.ns k).sum = 0:=fun k hk => by
  have:=List.all_eq_true.1 h6 k (by simpa using (by omega:k < c.ns.length))
  unfold rightR at this;simp only [Bool.and_eq_true,decide_eq_true_eq] at this;exact this.1
 have s1:∀ f:Ce → Int,f c = sumZ f [c]:=fun f => by rw [zxaa,zxbm]; omega
 have l1:∀ f:Ce → Int,LeZ f [c] (f c):=fun f => ⟨⟨c,List.mem_singleton.2 rfl,rfl⟩,fun x hx => by rw [List.mem_singleton.1 hx]; exact Int.le_refl _⟩
 have g1:∀ f:Ce → Int,GeZ f [c] (f c):=fun f => ⟨⟨c,List.mem_singleton.2 rfl,rfl⟩,fun x hx => by rw [List.mem_singleton.1 hx]; exact Int.le_refl _⟩
 exact ⟨by simp,h3,h4,s1 _,fun k _ => s1 fun x => (wg x.is k).sum,fun k _ => s1 fun x => (wg x.is k).abs,fun k _ => s1 fun x => wv (wg x.is k).sq,fun k hk => (hw.wg (by omega)).sq,fun k hk => ht k (by omega),fun k _ => l1 fun x => (wg x.is k).mn,fun k _ => g1 fun x => (wg x.is k).mx,fun k hk => (hw.rg (by omega)).sum,he,fun k _ => s1 fun x => readT (rg x.ns k).sum,fun k _ j => by simp,fun k _ => l1 fun x => keyI (rg x.ns k).mn,fun k _ => g1 fun x => keyI (rg x.ns k).mx⟩
theorem Rep.join {ni nn:Nat} {x y z:Ce} {G H:List Ce} (h:Rep ni nn x G) (k:Rep ni nn y H) (wx:CeW x) (wy:CeW y) (hj:JC x y z):Rep ni nn z (G ++ H):=by
 have hW:∀ i,i < ni → JW (wg x.is i) (wg y.is i) (wg z.is i):=fun i hi => hj.is i (by rw [h.li]; exact hi)
 have hR:∀ i,i < nn → JR (rg x.ns i) (rg y.ns i) (rg z.ns i):=fun i hi => hj.ns i (by rw [h.ln]; exact hi)
 have hE:∀ i,i < nn → errN (rg z.ns i).sum = 0:=fun i hi => by
  have hr:=hR i hi;exact zxa3 (Good.join (zqgs (wx.rg (by rw [h.ln]; exact hi)).sum hr.e1).1 (zqgs (wy.rg (by rw [k.ln]; exact hi)).sum hr.e2).1 hr.ft) hr.sum
 have hrd:∀ i,(hi:i < nn) → readF (rg z.ns i).sum = readF (rg x.ns i).sum ||| readF (rg y.ns i).sum ∧ readT (rg z.ns i).sum = readT (rg x.ns i).sum + readT (rg y.ns i).sum:=fun i hi => (hR i hi).reads (hR i hi).bt (hE i hi)
 refine ⟨fun e => h.ne (List.append_eq_nil_iff.1 e).1,hj.li.trans h.li,hj.ln.trans h.ln,by rw [hj.cnt,zxaf,h.cnt,k.cnt],fun i hi => by rw [(hW i hi).sum,zxaf,h.sum i hi,k.sum i hi],fun i hi => by rw [(hW i hi).abs,zxaf,h.abs i hi,k.abs i hi],fun i hi => by rw [(hW i hi).sq,zxaf,h.sq i hi,k.sq i hi],fun i hi => (hW i hi).wd,fun i hi => (hW i hi).ty,fun i hi => (h.mn i hi).app (k.mn i hi) (by rw [(hW i hi).mn]; split <;> omega),fun i hi => (h.mx i hi).app (k.mx i hi) (by rw [(hW i hi).mx]; split <;> omega),fun i hi => (hR i hi).bt,hE,fun i hi => by rw [(hrd i hi).2,zxaf,h.tt i hi,k.tt i hi],fun i hi j => ?_,fun i hi => (h.kn i hi).app (k.kn i hi) ?_,fun i hi => (h.kx i hi).app (k.kx i hi) ?_⟩
 ·rw [(hrd i hi).1,Nat.testBit_or,Bool.or_eq_true,h.fl i hi j,k.fl i hi j]
  constructor
  ·rintro (⟨a,ha,q⟩ | ⟨a,ha,q⟩)
   ·exact ⟨a,List.mem_append_left _ ha,q⟩
   ·exact ⟨a,List.mem_append_right _ ha,q⟩
  ·rintro ⟨a,ha,q⟩;rcases List.mem_append.1 ha with ha | ha
   ·exact .inl ⟨a,ha,q⟩
   ·exact .inr ⟨a,ha,q⟩
 ·rw [(hR i hi).mn];unfold lessB
  by_cases q:keyI (rg y.ns i).mn < keyI (rg x.ns i).mn
  ·rw [if_pos (decide_eq_true q),if_pos q]
  ·rw [if_neg (by simpa using q),if_neg q]
 ·rw [(hR i hi).mx];unfold lessB
  by_cases q:keyI (rg x.ns i).mx < keyI (rg y.ns i).mx
  ·rw [if_pos (decide_eq_true q),if_pos q]
  ·rw [if_neg (by simpa using q),if_neg q]
def grp (κ:Ce → Int) (q:Int) (l:List Ce):List Ce:=l.filter fun f => decide (κ f = q)
theorem zxbt (κ:Ce → Int) (q:Int) (l m:List Ce):grp κ q (l ++ m) = grp κ q l ++ grp κ q m:=List.filter_append ..
theorem zxbs {κ:Ce → Int} {q:Int} {l:List Ce} (h:∀ f ∈ l,κ f = q):grp κ q l = l:=List.filter_eq_self.2 fun f hf => decide_eq_true (h f hf)
theorem zxan {κ:Ce → Int} {q:Int} {l:List Ce} (h:∀ f ∈ l,κ f ≠ q):grp κ q l = []:=List.filter_eq_nil_iff.2 fun f hf => by simpa using h f hf
theorem zxao {κ:Ce → Int} {q:Int} {l:List Ce} {f:Ce}:f ∈ grp κ q l ↔ f ∈ l ∧ κ f = q:=by simp [grp]
structure RepL (ni nn:Nat) (κ:Ce → Int) (L Fs:List Ce):Prop where
 r:risingC L
 c:∀ c ∈ L,Rep ni nn c (grp κ c.key Fs)
 a:∀ f ∈ Fs,∃ c ∈ L,c.key = κ f
theorem RepL.nil (ni nn:Nat) (κ:Ce → Int):RepL ni nn κ [] []:=⟨List.Pairwise.nil,(fun c h => nomatch h),(fun f h => nomatch h)⟩
theorem RepL.perm {ni nn:Nat} {κ:Ce → Int} {L Fs Gs:List Ce} (h:RepL ni nn κ L Fs) (p:Fs.Perm Gs):RepL ni nn κ L Gs :=
 ⟨h.r,fun c hc => (h.c c hc).perm (p.filter _),fun f hf => h.a f (p.mem_iff.2 hf)⟩
theorem RepL.with {ni nn:Nat} {κ:Ce → Int} {L Fs G:List Ce} {c:Ce} (h:RepL ni nn κ L Fs) (hw:∀ x ∈ L,x.key = c.key → CeW x) (hc:Rep ni nn c G) (wc:CeW c) (hk:∀ f ∈ G,κ f = c.key) (he:(withL L c).1 = 0):RepL ni nn κ (withL L c).2 (Fs ++ G):=by
 cases hl:lookC L c.key with
 | none =>
  have hno:=zqg3 hl;obtain ⟨-,-,h3,h4⟩:=zqx1 h.r hno;refine ⟨h3,fun z hz => ?_,fun f hf => ?_⟩
  ·rw [zxbt];rcases (h4 z).1 hz with rfl | hz
   ·rw [zxan (l:=Fs) fun f hf e => by
     obtain ⟨x,hx,e2⟩:=h.a f hf;exact hno x hx (e2.trans e),zxbs hk,List.nil_append]
    exact hc
   ·rw [zxan (l:=G) fun f hf e => hno z hz (by rw [← e,hk f hf]),List.append_nil]
    exact h.c z hz
  ·rcases List.mem_append.1 hf with hf | hf
   ·obtain ⟨x,hx,e⟩:=h.a f hf;exact ⟨x,(h4 x).2 (.inr hx),e⟩
   ·exact ⟨c,(h4 c).2 (.inl rfl),(hk f hf).symm⟩
 | some x =>
  obtain ⟨hx,hxk⟩:=zqde hl;obtain ⟨h1,h2⟩:=zqir h.r hx hxk;have h0:errJ x c = 0:=h1.symm.trans he;obtain ⟨-,h3,h4⟩:=h2 h0;have hj:=zqk6 (hw x hx hxk) wc h0;refine ⟨h3,fun z hz => ?_,fun f hf => ?_⟩
  ·rw [zxbt];rcases (h4 z).1 hz with rfl | ⟨hz,hne⟩
   ·rw [hj.key,hxk,zxbs hk];have:=h.c x hx;rw [hxk] at this;exact this.join hc (hw x hx hxk) wc hj
   ·rw [zxan (l:=G) fun f hf e => hne (by rw [← e,hk f hf]),List.append_nil]
    exact h.c z hz
  ·rcases List.mem_append.1 hf with hf | hf
   ·obtain ⟨y,hy,e⟩:=h.a f hf
    by_cases q:y.key = c.key
    ·exact ⟨joinC x c,(h4 _).2 (.inl rfl),by rw [hj.key,hxk,← q,e]⟩
    ·exact ⟨y,(h4 y).2 (.inr ⟨hy,q⟩),e⟩
   ·exact ⟨joinC x c,(h4 _).2 (.inl rfl),by rw [hj.key,hxk,hk f hf]⟩
def Stays (r:Ce → Ce) (Inv:List Ce → List Ce → Prop):Prop:=∀ L c cs,Inv L (c :: cs) → (∀ x ∈ L,x.key = (r c).key → CeW x) ∧ ((withL L (r c)).1 = 0 → Inv (withL L (r c)).2 cs)
theorem RepL.fold {ni nn:Nat} {κ:Ce → Int} {r:Ce → Ce} {g:Ce → List Ce} {Inv:List Ce → List Ce → Prop} (hI:Stays r Inv):∀ (cs:List Ce) {L Fs:List Ce},RepL ni nn κ L Fs → Inv L cs → (∀ c ∈ cs,Rep ni nn (r c) (g c) ∧ CeW (r c) ∧ ∀ f ∈ g c,κ f = (r c).key) → (foldC L (cs.map r)).1 = 0 →
  RepL ni nn κ (foldC L (cs.map r)).2 (Fs ++ cs.flatMap g) ∧ Inv (foldC L (cs.map r)).2 []
 | [],L,Fs,h,hi,_,_ => by
  rw [List.flatMap_nil,List.append_nil];exact ⟨h,hi⟩
 | c :: cs,L,Fs,h,hi,hc,he => by
  obtain ⟨c1,c2,c3⟩:=hc c (List.mem_cons_self ..);obtain ⟨i1,i2⟩:=hI L c cs hi;rw [List.map_cons] at he ⊢;unfold foldC at he ⊢
  by_cases hw:(withL L (r c)).1 = 0
  ·rw [if_pos hw] at he ⊢;have:=RepL.fold hI cs (h.with i1 c1 c2 c3 hw) (i2 hw) (fun d hd => hc d (List.mem_cons_of_mem _ hd)) he
   rw [List.flatMap_cons,← List.append_assoc];exact this
  ·rw [if_neg hw] at he; exact absurd he hw
def InvS (r:Ce → Ce) (L cs:List Ce):Prop:=∃ n,1 ≤ n ∧ n + cs.length ≤ 1000 ∧ (∀ x ∈ L,Sv n x) ∧ ∀ c ∈ cs,Sv 1 (r c)
theorem invS (r:Ce → Ce):Stays r (InvS r):=fun L c cs ⟨n,h1,h2,h3,h4⟩ => by
 simp only [List.length_cons] at h2;exact ⟨fun x hx _ => (h3 x hx).1,fun _ => ⟨n + 1,by omega,by omega,fun x hx => zqko h3 (h4 c (List.mem_cons_self ..)) h1 (by omega) x hx,fun d hd => h4 d (List.mem_cons_of_mem _ hd)⟩⟩
def InvM (L cs:List Ce):Prop:=risingC L ∧ risingC cs ∧ (∀ x ∈ L,CeW x ∧ ((∃ c ∈ cs,c.key = x.key) → ShortC 30 x)) ∧ ∀ c ∈ cs,CeW c ∧ ShortC 30 c
theorem invM:Stays id InvM:=fun L c cs ⟨h1,h2,h3,h4⟩ => by
 have hrh:=zqaz h2;have hc:=h4 c (List.mem_cons_self ..);refine ⟨fun x hx _ => (h3 x hx).1,fun he => ⟨zxaq h1 he,zqbn h2,fun z hz => ?_,fun d hd => h4 d (List.mem_cons_of_mem _ hd)⟩⟩
 have hk:∀ d,d ∈ cs → d.key ≠ c.key:=fun d hd e => by have:=hrh d hd; omega
 cases hl:lookC L c.key with
 | none =>
  rcases ((zqx1 h1 (zqg3 hl)).2.2.2 z).1 hz with rfl | hz
  ·exact ⟨hc.1,fun _ => hc.2⟩
  ·exact ⟨(h3 z hz).1,fun ⟨d,hd,e⟩ => (h3 z hz).2 ⟨d,List.mem_cons_of_mem _ hd,e⟩⟩
 | some x =>
  obtain ⟨hx,hxk⟩:=zqde hl;obtain ⟨k1,k2⟩:=zqir h1 hx hxk;have h0:errJ x c = 0:=k1.symm.trans he;rcases ((k2 h0).2.2 z).1 hz with rfl | ⟨hz,_⟩
  ·have hj:=zqk6 (h3 x hx).1 hc.1 h0;have hsx:=(h3 x hx).2 ⟨c,List.mem_cons_self ..,hxk.symm⟩;obtain ⟨q1,q2,q3,-⟩:=zqfp h0;have hs:=hj.short (h3 x hx).1 hc.1 hsx hc.2 q2;refine ⟨hj.w (h3 x hx).1 hc.1 hs (by decide) h0,fun ⟨d,hd,e⟩ => ?_⟩
   rw [hj.key,hxk] at e;exact absurd e (hk d hd)
  ·exact ⟨(h3 z hz).1,fun ⟨d,hd,e⟩ => (h3 z hz).2 ⟨d,List.mem_cons_of_mem _ hd,e⟩⟩
structure Lf (ni nn:Nat) (x:Ce):Prop where
 li:x.is.length = ni
 ln:x.ns.length = nn
 cnt:x.cnt = 1
 abs:∀ k,k < ni → 0 ≤ (wg x.is k).abs ∧ -(wg x.is k).abs ≤ (wg x.is k).sum ∧ (wg x.is k).sum ≤ (wg x.is k).abs
 tt:∀ k,k < nn → Fewer 1 (readT (rg x.ns k).sum)
 sq:∀ k,k < ni → wv (wg x.is k).sq ≤ 85070591730234615865843651857942052864
def OkG (ni:Nat) (G:List Ce):Prop:=∀ k,k < ni → sumZ (fun x => (wg x.is k).abs) G ≤ 9223372036854775807
theorem OkG.sub {ni nn:Nat} {G H:List Ce} (h:OkG ni H) (hs:G.Sublist H) (hl:∀ x ∈ H,Lf ni nn x):OkG ni G:=fun k hk =>
 Int.le_trans (zxce hs fun x hx => ((hl x hx).abs k hk).1) (h k hk)
theorem OkG.perm {ni:Nat} {G H:List Ce} (h:OkG ni G) (p:G.Perm H):OkG ni H:=fun k hk => by rw [← zxac _ p]; exact h k hk
theorem Rep.okG {ni nn:Nat} {c:Ce} {G:List Ce} (h:Rep ni nn c G) (hw:CeW c):OkG ni G:=fun k hk => by
 rw [← h.abs k hk];exact (hw.wg (by rw [h.li]; exact hk)).abs.2
theorem RepL.ok {ni nn:Nat} {κ:Ce → Int} {L Fs:List Ce} (h:RepL ni nn κ L Fs) (hw:∀ c ∈ L,CeW c) (q:Int):OkG ni (grp κ q Fs):=by
 by_cases e:∃ c ∈ L,c.key = q
 ·obtain ⟨c,hc,rfl⟩:=e;exact (h.c c hc).okG (hw c hc)
 ·rw [zxan fun f hf e2 => e (by
   obtain ⟨c,hc,e3⟩:=h.a f hf;exact ⟨c,hc,e3.trans e2⟩)]
  intro k hk;rw [zxbm]
  decide
theorem zxa5 {p q:Ce → Bool} (hpq:∀ x,p x = true → q x = true → False):∀ l:List Ce,(l.filter fun x => p x || q x).Perm (l.filter p ++ l.filter q)
 | [] => List.Perm.nil
 | a :: l => by
  have ih:=zxa5 hpq l
  by_cases hp:p a = true
  ·have hq:q a = false:=by
    cases e:q a with
    | false => rfl
    | true => exact (hpq a hp e).elim
   rw [List.filter_cons_of_pos (by rw [hp]; rfl),List.filter_cons_of_pos hp,List.filter_cons_of_neg (by rw [hq]; decide),List.cons_append]
   exact ih.cons a
  ·have hp':p a = false:=eq_false_of_ne_true hp
   by_cases hq:q a = true
   ·rw [List.filter_cons_of_pos (by rw [hp',hq]; rfl),List.filter_cons_of_neg hp,List.filter_cons_of_pos hq]
    exact (ih.cons a).trans List.perm_middle.symm
   ·rw [List.filter_cons_of_neg (by rw [hp',eq_false_of_ne_true hq]; decide),List.filter_cons_of_neg hp,List.filter_cons_of_neg hq]
    exact ih
theorem zxaw {κ:Ce → Int} (Fs:List Ce):∀ L:List Ce,risingC L → (L.flatMap fun c => grp κ c.key Fs).Perm (Fs.filter fun f => L.any fun c => decide (κ f = c.key))
 | [],_ => by simp
 | c :: L,h => by
  rw [List.flatMap_cons];have ih:=zxaw (κ:=κ) Fs L (zqbn h);have e:(Fs.filter fun f => (c :: L).any fun c => decide (κ f = c.key)) = Fs.filter fun f => decide (κ f = c.key) || L.any fun c => decide (κ f = c.key):=by simp [List.any_cons]
  rw [e];refine (List.Perm.append_left _ ih).trans (zxa5 (fun x hp hq => ?_) Fs).symm
  obtain ⟨d,hd,e2⟩:=List.any_eq_true.1 hq;have h1:=of_decide_eq_true hp;have h2:=of_decide_eq_true e2;have:=zqaz h d hd;omega
theorem RepL.groups {ni nn:Nat} {κ:Ce → Int} {L Fs:List Ce} (h:RepL ni nn κ L Fs):(L.flatMap fun c => grp κ c.key Fs).Perm Fs:=by
 have h1:=zxaw (κ:=κ) Fs L h.r;rw [List.filter_eq_self.2 fun f hf => by
  obtain ⟨c,hc,e⟩:=h.a f hf;exact List.any_eq_true.2 ⟨c,hc,decide_eq_true e.symm⟩] at h1
 exact h1
theorem zxcb:∀ {l m:List Int},l.Pairwise (fun a b => a < b) → m.Pairwise (fun a b => a < b) → (∀ x,x ∈ l ↔ x ∈ m) → l = m:=fun {l m} hl hm h => by
 have nl:l.Nodup:=hl.imp (S:=(· ≠ ·)) (fun {a b} h e => by omega)
 have nm:m.Nodup:=hm.imp (S:=(· ≠ ·)) (fun {a b} h e => by omega)
 have hp:l.Perm m:=(List.perm_ext_iff_of_nodup nl nm).2 h;exact hp.eq_of_pairwise (fun a b _ _ h1 h2 => absurd (Int.lt_trans h1 h2) (Int.lt_irrefl a)) hl hm
theorem RepL.keys {ni nn:Nat} {κ:Ce → Int} {L Fs:List Ce} (h:RepL ni nn κ L Fs) (q:Int):q ∈ L.map (fun c => c.key) ↔ ∃ f ∈ Fs,κ f = q:=by
 constructor
 ·intro hq;obtain ⟨c,hc,rfl⟩:=List.mem_map.1 hq;obtain ⟨f,hf⟩:=List.exists_mem_of_ne_nil _ (h.c c hc).ne;obtain ⟨h1,h2⟩:=zxao.1 hf;exact ⟨f,h1,h2⟩
 ·rintro ⟨f,hf,rfl⟩;obtain ⟨c,hc,e⟩:=h.a f hf;exact List.mem_map.2 ⟨c,hc,e⟩
theorem RepL.same {ni nn:Nat} {κ:Ce → Int} {L M Fs:List Ce} (h:RepL ni nn κ L Fs) (k:RepL ni nn κ M Fs):eqsC L M = true:=by
 have e:L.map (fun c => c.key) = M.map (fun c => c.key):=zxcb (List.pairwise_map.2 h.r) (List.pairwise_map.2 k.r) fun q => by rw [h.keys,k.keys]
 have hl:L.length = M.length:=by have:=congrArg List.length e; simpa using this
 unfold eqsC;rw [decide_eq_true hl,Bool.true_and,List.all_eq_true];intro i hi;have hi1:i < L.length:=by simpa using hi
 have hi2:i < M.length:=by omega
 have ek:L[i].key = M[i].key:=by
  have h1:(L.map (fun c => c.key))[i]? = (M.map (fun c => c.key))[i]?:=by rw [e]
  rw [List.getElem?_map,List.getElem?_map,List.getElem?_eq_getElem hi1,List.getElem?_eq_getElem hi2] at h1;simpa using h1
 rw [zqat hi1,zqat hi2];have h1:=h.c L[i] (List.getElem_mem hi1);have h2:=k.c M[i] (List.getElem_mem hi2);rw [← ek] at h2;exact h1.same h2 ek
theorem zxab {A:List Ce}:mergeC A [] = (0,A):=by
 cases A with
 | nil => rw [mergeC]
 | cons x A => rw [mergeC]; exact fun h => nomatch h
theorem zxaz:∀ (A:List Ce) (y:Ce) (B:List Ce),risingC A → risingC (y :: B) → mergeC A (y :: B) = if (withL A y).1 = 0 then mergeC (withL A y).2 B else ((withL A y).1,[])
 | [],y,B,_,hb => by
  rw [show withL [] y = (0,[y]) from rfl,if_pos rfl,show mergeC [] (y :: B) = (0,y :: B) by rw [mergeC]]
  cases B with
  | nil => exact zxab.symm
  | cons z B =>
   have:=zqaz hb z (List.mem_cons_self ..);rw [zxae this];rw [show mergeC [] (z :: B) = (0,z :: B) by rw [mergeC]]
   rfl
 | x :: A,y,B,ha,hb => by
  have hxA:=zqaz ha
  by_cases h1:x.key < y.key
  ·have ih:=zxaz A y B (zqbn ha) hb;rw [zxae h1,ih,withL,if_pos h1]
   by_cases e:(withL A y).1 = 0
   ·rw [if_pos e,if_pos e,if_pos rfl];cases B with
    | nil => rw [zxab,zxab]; rfl
    | cons z B =>
     have:=zqaz hb z (List.mem_cons_self ..);exact (zxae (by omega)).symm
   ·rw [if_neg e,if_neg e,if_neg e];unfold consE;rw [if_neg e]
  ·by_cases h2:y.key < x.key
   ·rw [zxbh h2,show withL (x :: A) y = (0,y :: x :: A) by rw [withL,if_neg h1,if_neg (show ¬ x.key = y.key by omega)],if_pos rfl]
    cases B with
    | nil => rw [zxab,zxab]; rfl
    | cons z B =>
     have:=zqaz hb z (List.mem_cons_self ..);exact (zxae (by omega)).symm
   ·have h3:x.key = y.key:=by omega
    rw [withL,if_neg h1,if_pos h3]
    by_cases e:errJ x y = 0
    ·rw [zxbg h3 e,if_pos e,if_pos rfl];cases B with
     | nil => rw [zxab,zxab]; rfl
     | cons z B =>
      have:=zqaz hb z (List.mem_cons_self ..);exact (zxae (by rw [zqdd e]; omega)).symm
    ·rw [zxbi h3 e,if_neg e,if_neg e]
theorem zxay:∀ (B A:List Ce),risingC A → risingC B → mergeC A B = foldC A B
 | [],A,_,_ => by rw [zxab]; rfl
 | y :: B,A,ha,hb => by
  rw [zxaz A y B ha hb];unfold foldC
  by_cases e:(withL A y).1 = 0
  ·rw [if_pos e,if_pos e];exact zxay B _ (zxaq ha e) (zqbn hb)
  ·rw [if_neg e,if_neg e]
theorem zxbe {g:Ce → List Ce}:∀ L:List Ce,(∀ c ∈ L,g c ≠ []) → L.length ≤ (L.flatMap g).length
 | [],_ => Nat.zero_le _
 | c :: L,h => by
  rw [List.flatMap_cons,List.length_append,List.length_cons];have h1:=zxbe L fun d hd => h d (List.mem_cons_of_mem _ hd)
  have h2:=List.length_pos_iff.2 (h c (List.mem_cons_self ..));omega
theorem RepL.len {ni nn:Nat} {κ:Ce → Int} {L Fs:List Ce} (h:RepL ni nn κ L Fs):L.length ≤ Fs.length:=by
 rw [← h.groups.length_eq];exact zxbe L fun c hc => (h.c c hc).ne
theorem zxbk {S:Sc} {m:Int} {c:Ce} (h:rightC S m c = true) (hs:Sv 2 c):Sv 1 c:=by
 refine ⟨hs.1,⟨hs.2.1.li,hs.2.1.ln,fun k hk => ⟨(hs.2.1.sq k hk).1,?_⟩⟩,hs.2.2⟩
 unfold rightC validC at h;simp only [Bool.and_eq_true,decide_eq_true_eq] at h;obtain ⟨-,⟨-,h5⟩,-⟩:=h;have h1:=List.all_eq_true.1 h5 k (by simpa using hk)
 unfold rightW at h1;simp only [Bool.and_eq_true,decide_eq_true_eq] at h1;obtain ⟨⟨-,h7⟩,-⟩:=h1;have h3:=(zqas (hs.1.wg hk).sq).2;have h8:=Nat.pow_le_pow_right (n:=4294967296) (by decide) h7
 have e1:((4294967296 ^ (wg c.is k).sq.length:Nat):Int) = 4294967296 ^ (wg c.is k).sq.length:=by rw [Int.natCast_pow]; rfl
 have e2:((4294967296 ^ 7:Nat):Int) = 4294967296 ^ 7:=by rw [Int.natCast_pow]; rfl
 have h6:(4294967296:Int) ^ (wg c.is k).sq.length ≤ 4294967296 ^ 7:=by rw [← e1,← e2]; exact Int.ofNat_le.2 h8
 exact Int.le_trans (Int.le_of_lt (Int.lt_of_lt_of_le h3 h6)) (by decide)
theorem rights {S:Sc} {m:Int} {l:List Ce} (h:rightL S m l = true):∀ c ∈ l,rightC S m c = true:=fun c hc => by
 obtain ⟨i,hi,rfl⟩:=List.getElem_of_mem hc;have h4:=(zqfz.1 h).2.2 i hi;rw [zqat hi] at h4;exact h4
theorem zxbf:∀ {l:List Ce},risingC l → ∀ c ∈ l,grp (fun c => c.key) c.key l = [c]
 | [],_,c,hc => nomatch hc
 | a :: l,h,c,hc => by
  obtain ⟨h1,h2⟩:=List.pairwise_cons.1 h;rcases List.mem_cons.1 hc with rfl | hc
  ·have:grp (fun c => c.key) c.key l = []:=zxan fun f hf => by have:=h1 f hf; omega
   unfold grp at this ⊢;rw [List.filter_cons,if_pos (decide_eq_true rfl),this]
  ·have hne:¬ (decide (a.key = c.key) = true):=by have:=h1 c hc; simp; omega
   have:=zxbf h2 c hc;unfold grp at this ⊢;rw [List.filter_cons,if_neg hne,this]
theorem zxbl {S:Sc} {m:Int} {l:List Ce} (h:rightL S m l = true) (hw:LsW l):RepL S.is.length S.ns.length (fun c => c.key) l l:=by
 have hr:=zxak.1 (zqfz.1 h).2.1;refine ⟨hr,fun c hc => ?_,fun f hf => ⟨f,hf,rfl⟩⟩
 rw [zxbf hr c hc];exact zxcj (rights h c hc) (hw c hc)
theorem zxau {S:Sc} {a b:Int} {κ κ':Ce → Int} {L C:List Ce} (hs:∀ c ∈ L,Sv 1 c) (hl:L.length ≤ 900) (h:RepL S.is.length S.ns.length κ L C) (b0:0 ≤ b) (b1:b ≤ 4294967295) (hk:∀ c ∈ L,∀ f ∈ C,κ f = c.key → κ' f = downL S a b c.key) (h0:(rollE S a b L).1 = 0) :
  RepL S.is.length S.ns.length κ' (rollE S a b L).2 C:=by
 obtain ⟨-,-,he⟩:=zxad h0;have hi:InvS (rkC S a b) [] L:=⟨1,Nat.le_refl _,by omega,(fun z hz => nomatch hz),fun c hc => (hs c hc).key _ (zqv2 b0 b1)⟩
 have hg:∀ c ∈ L,Rep S.is.length S.ns.length (rkC S a b c) (grp κ c.key C) ∧ CeW (rkC S a b c) ∧ ∀ f ∈ grp κ c.key C,κ' f = (rkC S a b c).key:=fun c hc =>
  ⟨(h.c c hc).key _,((hs c hc).key _ (zqv2 b0 b1)).1,fun f hf => hk c hc f (zxao.1 hf).1 (zxao.1 hf).2⟩
 have h0':=h0;rw [he] at h0' ⊢;obtain ⟨f1,-⟩:=RepL.fold (invS (rkC S a b)) L (RepL.nil S.is.length S.ns.length κ') hi hg h0';rw [List.nil_append] at f1;exact f1.perm h.groups
theorem zxbb {ni nn:Nat} {κ:Ce → Int} {a b A B:List Ce} (ra:RepL ni nn κ a A) (rb:RepL ni nn κ b B) (sa:∀ c ∈ a,CeW c ∧ ShortC 30 c) (sb:∀ c ∈ b,CeW c ∧ ShortC 30 c) (h0:(mergeE a b).1 = 0):RepL ni nn κ (mergeE a b).2 (A ++ B) ∧ LsW (mergeE a b).2:=by
 have hm:mergeE a b = foldC a (b.map id):=by
  unfold mergeE;rw [if_pos ⟨zxak.2 ra.r,zxak.2 rb.r⟩,zxay _ _ ra.r rb.r,List.map_id]
 have hi:InvM a b:=⟨ra.r,rb.r,fun x hx => ⟨(sa x hx).1,fun _ => (sa x hx).2⟩,sb⟩
 have hg:∀ c ∈ b,Rep ni nn (id c) (grp κ c.key B) ∧ CeW (id c) ∧ ∀ f ∈ grp κ c.key B,κ f = (id c).key:=fun c hc => ⟨rb.c c hc,(sb c hc).1,fun f hf => (zxao.1 hf).2⟩
 rw [hm] at h0 ⊢;have hfin:=RepL.fold invM b ra hi hg h0;exact ⟨hfin.1.perm (List.Perm.append_left _ rb.groups),fun c hc => (hfin.2.2.2.1 c hc).1⟩
theorem zxar {x:Ce} {r:Nat × List Ce}:(consE x r).2.length ≤ r.2.length + 1:=by
 unfold consE
 split
 ·simp
 ·simp
theorem zxag:∀ a b:List Ce,(mergeC a b).2.length ≤ a.length + b.length
 | [],b => by unfold mergeC; simp
 | x :: a,[] => by unfold mergeC; simp
 | x :: a,y :: b => by
  rw [mergeC];have h1:=zxag a (y :: b);have h2:=zxag (x :: a) b;have h3:=zxag a b;simp only [List.length_cons] at h1 h2 h3 ⊢
  split
  ·exact Nat.le_trans zxar (by omega)
  ·split
   ·exact Nat.le_trans zxar (by omega)
   ·split
    ·exact Nat.le_trans zxar (by omega)
    ·simp
termination_by a b => a.length + b.length
theorem zxax (a b:List Ce):(mergeE a b).2.length ≤ a.length + b.length:=by
 unfold mergeE
 split
 ·exact zxag a b
 ·simp
theorem zxbc {S:Sc} {m t:Int} {a b:List Ce} (sa:∀ c ∈ a,Sv 1 c) (sb:∀ c ∈ b,Sv 1 c) (la:a.length ≤ 60) (lb:b.length ≤ 60) (m0:0 ≤ m) (t0:0 ≤ t) (t1:t ≤ 4294967295)
  (he:(mergeE a b).1 = 0) (hx:(rollE S m t (mergeE a b).2).1 = 0) (hy:(rollE S m t a).1 = 0) (hz:(rollE S m t b).1 = 0) :
  (rollE S m t a).2.length ≤ 60 ∧ (rollE S m t b).2.length ≤ 60 ∧ LsW (rollE S m t (mergeE a b).2).2 ∧
  ((mergeE (rollE S m t a).2 (rollE S m t b).2).1 = 0 → eqsC (rollE S m t (mergeE a b).2).2 (mergeE (rollE S m t a).2 (rollE S m t b).2).2 = true ∧ LsW (mergeE (rollE S m t a).2 (rollE S m t b).2).2):=by
 have ra:=zxbl (zxad hy).1 fun c hc => (sa c hc).1
 have rb:=zxbl (zxad hz).1 fun c hc => (sb c hc).1
 obtain ⟨rm,-⟩:=zxbb ra rb (fun c hc => ⟨(sa c hc).1,(sa c hc).2.1.c.mono (by decide)⟩) (fun c hc => ⟨(sb c hc).1,(sb c hc).2.1.c.mono (by decide)⟩) he
 have hmr:=rights (zxad hx).1;have sm:∀ c ∈ (mergeE a b).2,Sv 1 c:=fun c hc => zxbk (hmr c hc) (zxa9 sa sb c hc)
 have lm:=zxax a b;have rx:=zxau (κ':=fun c => downL S m t c.key) sm (by omega) rm t0 t1 (fun c _ f _ e => by rw [e]) hx
 have ry:=zxau (κ':=fun c => downL S m t c.key) sa (by omega) ra t0 t1 (fun c _ f _ e => by rw [e]) hy
 have rz:=zxau (κ':=fun c => downL S m t c.key) sb (by omega) rb t0 t1 (fun c _ f _ e => by rw [e]) hz
 have qy:=zxah (S:=S) sa (by omega) m0 t0 t1
 have qz:=zxah (S:=S) sb (by omega) m0 t0 t1
 refine ⟨Nat.le_trans ry.len la,Nat.le_trans rz.len lb,zxck sm (by omega) m0 t0 t1,fun hi => ?_⟩
 obtain ⟨rw',lw⟩:=zxbb ry rz (fun c hc => ⟨(qy c hc).1.1,(qy c hc).1.2.1.c.mono (by decide)⟩) (fun c hc => ⟨(qz c hc).1.1,(qz c hc).1.2.1.c.mono (by decide)⟩) hi
 exact ⟨rx.same rw',lw⟩
set_option maxHeartbeats 2000000 in
theorem zxbp (w:World) (D I M V v:Value) (S:Sc) (a b:Int) (l:List Ce) (h:Sch4 w D I M V S) (hw:SWf S) (h':Cells w v l) (hl:LsW l) (a0:0 ≤ a) (a1:a ≤ 4294967295) (hr:¬ rightL S a l = true) :
  Calls Tryz.prog 27 #[SchV D I M V,.int .u32 a,.int .u32 b,v] w (RollP w (rollE S a b l)):=by
 have HB:=zh (zqab w (SchO D I M V));have HX:=zh (zqau w D I M V);have HRt:=zh (fun w1 (hb:Below w.heap.size w w1) => zqgo w1 D I M V v S a l (h.below hb) hw (h'.below hb) hl a0 a1)
 obtain ⟨⟨a1',c1,rfl⟩,⟨a2,c2,rfl⟩,⟨a3,c3,rfl⟩,a4,c4,rfl⟩:=h.slices;obtain ⟨p,cap,rfl,-⟩:=h';have hR:rollE S a b l = (1,[]):=if_neg hr;rw [hR];rw [eq_false_of_ne_true hr] at HRt;clear hR hr hl h hw;go_enter Tryz.func27,Tryz.ntmps27;obtain ⟨x0,x1,x2,x3⟩:=HX.out.reads;go_wp2_with fail;refine (HRt.out _ HB.out).mono ?_; rintro e w1 ⟨rfl,hb⟩;have HF:=zh (zqbt (n:=1) (zqaa HB.out hb));clear hb x0 x1 x2 x3;go_wp2_with fail;go_ret2;exact HF.out
set_option maxHeartbeats 1000000 in
theorem zxcf (w:World) (n:Nat) (hn:n ≤ 9223372036854775807) :
  Calls Tryz.prog 60 #[.int .i64 n] w fun e w' => (∃ x:Int,e = .returned (.int .u32 x) ∧ 0 ≤ x ∧ x ≤ 4294967295) ∧ w = w':=by
 have HWr:=zh (fun y:Int => show 0 ≤ IntKind.u32.wrap y ∧ IntKind.u32.wrap y ≤ 4294967295 from by rw [IntKind.wrap_u32]; omega)
 go_enter Tryz.func60,Tryz.ntmps60;go_wp2;go_loopw [3,4] (fun x i wr => ∃ k:Nat,k ≤ n ∧ i = .int .i64 k ∧ w = wr ∧ ∃ y:Int,x = .int .u32 y ∧ Hid (0 ≤ y ∧ y ≤ 4294967295)) (fun _ i _ => n - (intOf i).toNat)
 case atStart => exact ⟨0,Nat.zero_le _,rfl,rfl,1,rfl,zh ⟨by decide,by decide⟩⟩
 case round =>
  obtain ⟨k,hk,rfl,rfl,y,rfl,HY⟩:=hrel
  by_cases hlk:k < n
  ·have HY2:=zh (HWr.out (2 * y));go_wp2;go_roundw
   case rel => exact ⟨k + 1,by omega,by go_num,by trivial,_,rfl,HY2⟩
   case measure => simp [intOf]; omega
  ·have:k = n:=by omega
   subst this;go_wp2;go_ret;exact ⟨⟨y,rfl,HY.out.1,HY.out.2⟩,rfl⟩
set_option maxHeartbeats 1000000 in
theorem zxb1 (w:World) (D I M V:Value) (S:Sc) (h:Sch4 w D I M V S) (hn:S.ds.length ≤ 9223372036854775807) :
  Calls Tryz.prog 30 #[SchV D I M V] w fun e w' => (∃ x:Int,e = .returned (.int .u32 x) ∧ 0 ≤ x ∧ x ≤ 4294967295) ∧ Below w.heap.size w w':=by
 obtain ⟨⟨a,c,rfl⟩,-,-,-⟩:=h.slices;have HB:=zh (zqab w (SchO (.slice a S.ds.length c) I M V));have HT:=zh (fun w => zxcf w S.ds.length hn)
 have HWr:=zh (fun y:Int => show 0 ≤ IntKind.u32.wrap y ∧ IntKind.u32.wrap y ≤ 4294967295 from by rw [IntKind.wrap_u32]; omega)
 clear h;go_enter Tryz.func30,Tryz.ntmps30;go_wp2_with fail;refine (HT.out _).mono ?_; rintro e w1 ⟨⟨x,rfl,-,-⟩,rfl⟩;go_wp2_with fail;go_ret;exact ⟨⟨_,rfl,HWr.out _⟩,HB.out⟩
end Go.Proofs.YtmnbljijnbhghaaGreatDoor
namespace Go.Proofs.YtmnbljijnbhghaaGreatDoor
set_option maxRecDepth 100000
open Go.RowKit Go.ChangeShapes Go.WideShapes Go.Deep
set_option linter.unusedVariables false
def RowCe (w:World) (c:Ce) (cs:List Value):Prop:=∃ I N,cs = [.int .u64 c.key,.int .i64 c.cnt,I,N] ∧ CeM w I N c ∧ CeW c
theorem zqsg {H:Type} {enc:TypeId × Value → H} {w:World} {base:Nat} {spare:Nat → Bool} {held:Bool} {fuel:Nat} {cs:List Value} {x:DataW H × List MemPlace} {g0 g1 g2 g3:Field}
  (hT:Tryz.prog.underlying 38 = some (.struct #[g0,g1,g2,g3])) (hc:Tryz.prog.cellsOf 38 = 4) (o0:g0.offset = 0) (o1:g1.offset = 1) (o2:g2.offset = 2) (o3:g3.offset = 3)
  (y0:g0.type = 34) (y1:g1.type = 2) (y2:g2.type = 35) (y3:g3.type = 36)
  (c0':Tryz.prog.cellsOf 34 = 1) (c1':Tryz.prog.cellsOf 2 = 1) (c2':Tryz.prog.cellsOf 35 = 1) (c3':Tryz.prog.cellsOf 36 = 1)
  (h:DataW.trod enc Tryz.prog w base spare held fuel 38 cs = some x):∃ I N c,cs = [.int .u64 c.key,.int .i64 c.cnt,I,N] ∧ CeM w I N c ∧ CeW c:=by
 obtain ⟨xs,n,-,hx,hlen,hxl,hf⟩:=DataW.trod_struct hT h;rw [hc] at hlen
 match cs,hlen with
 | [c0,c1,c2,c3],_ =>
  match xs,hxl with
  | [z0,z1,z2,z3],_ =>
   have q0:=hf 0 g0 rfl;have q1:=hf 1 g1 rfl;have q2:=hf 2 g2 rfl;have q3:=hf 3 g3 rfl;rw [o0,y0,c0'] at q0;rw [o1,y1,c1'] at q1;rw [o2,y2,c2'] at q2;rw [o3,y3,c3'] at q3;obtain ⟨k,k0,-,w0⟩:=DataW.trod_int Tryz.underlying34 q0;obtain ⟨m,k1,-,w1⟩:=DataW.trod_int Tryz.underlying2 q1;obtain ⟨ls,k2,w2⟩:=zqvc (v:=c2) q2;obtain ⟨rs,k3,w3⟩:=zqxg (v:=c3) q3;obtain rfl:c0 = .int .u64 k:=by simpa using k0
   obtain rfl:c1 = .int .i64 m:=by simpa using k1
   exact ⟨c2,c3,⟨k,m,ls,rs⟩,rfl,⟨k2,k3⟩,⟨by simp [Lit.wf,IntKind.min,IntKind.max,IntKind.signed,IntKind.bits] at w0; omega,wf_i64 w1,w2,w3⟩⟩
end Go.Proofs.YtmnbljijnbhghaaGreatDoor
namespace Go.Proofs.YtmnbljijnbhghaaGreatDoor
set_option maxRecDepth 100000
open Go.RowKit
set_option linter.unusedVariables false
theorem zxbd {H:Type} {enc:TypeId × Value → H} {w:World} {base:Nat} {spare:Nat → Bool} {held:Bool} {fuel:Nat} {v:Value} {x:DataW H × List MemPlace}
  (h:DataW.trod enc Tryz.prog w base spare held fuel 28 [v] = some x):∃ l,Cells w v l ∧ LsW l:=by
 obtain ⟨l,a,cap,e,h1,h2,h3,h4⟩:=zqie (n:=4) (RowCe w) ce0 (by decide) Tryz.underlying28 (by kernel_rfl)
  (fun {fuel cs x} h => by
   obtain ⟨I,N,c,e,k1,k2⟩:=zqsg Tryz.underlying38 (by kernel_rfl) rfl rfl rfl rfl rfl rfl rfl rfl (by kernel_rfl) (by kernel_rfl) (by kernel_rfl) (by kernel_rfl) h
   exact ⟨c,⟨I,N,e,k1,k2⟩,by rw [e]; rfl⟩) h
 rw [e];refine ⟨l,⟨a,cap,rfl,h1,h2,h4.imp id ?_⟩,fun z hz => ?_⟩
 ·rintro ⟨b,off,rfl,hlt,hc⟩;refine ⟨b,off,rfl,hlt,fun i hi => ?_⟩
  obtain ⟨cs,⟨I,N,rfl,hm,-⟩,hcell⟩:=hc i hi;rw [zqat hi];exact ⟨I,N,hcell 0 (by decide),hcell 1 (by decide),hcell 2 (by decide),hcell 3 (by decide),hm⟩
 ·obtain ⟨cs,I,N,-,-,hw⟩:=h3 z hz;exact hw
open Go.ChangeShapes Go.WideShapes Go.Deep in
theorem zxb7 {H:Type} {enc:TypeId × Value → H} {w:World} {base:Nat} {spare:Nat → Bool} {held:Bool} {r:Reach} {b0:Nat} {v:Value} {d:DataW H} {p:List MemPlace}
  (hv:Value.okWide Tryz.prog w r b0 63 v) (h:DataW.Trod enc Tryz.prog w base spare held 63 v d p) :
  ∃ u0 u1 l0 l1,v = .agg #[u0,u1] ∧ Cells w u0 l0 ∧ LsW l0 ∧ Cells w u1 l1 ∧ LsW l1:=by
 obtain ⟨cs,rfl,hsz⟩:=zxb4 (m:=2) Tryz.underlying63 (by kernel_rfl) hv
 obtain ⟨fuel,h⟩:=h;obtain ⟨xs,m,-,hx,hlen,hxl,hf⟩:=DataW.trod_array Tryz.underlying63 h;obtain ⟨l⟩:=cs;rw [show Tryz.prog.cellsOf 28 = 1 by kernel_rfl] at hf
 match l,hsz with
 | [c0,c1],_ =>
  match xs,hxl with
  | [y0,y1],_ =>
   have h0:=hf 0 (by decide)
   have h1:=hf 1 (by decide)
   obtain ⟨l0,k0,j0⟩:=zxbd h0;obtain ⟨l1,k1,j1⟩:=zxbd h1;exact ⟨c0,c1,l0,l1,rfl,k0,j0,k1,j1⟩
def Box2L (w:World) (N:Nat) (a b:Value):Prop:=w.heap[N]? = some (.cells #[a,b] 63 (0,0))
theorem Box2L.reads {w:World} {N:Nat} {a b:Value} (h:Box2L w N a b):w.cell? ⟨N,0,none⟩ = some a ∧ w.cell? ⟨N,1,none⟩ = some b:=by
 unfold Box2L at h;exact ⟨by simp [World.cell?,h],by simp [World.cell?,h]⟩
end Go.Proofs.YtmnbljijnbhghaaGreatDoor
