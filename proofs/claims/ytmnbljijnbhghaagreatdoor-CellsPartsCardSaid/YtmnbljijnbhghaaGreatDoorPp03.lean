/- Contracts that the law leans on: Cemw Cemr Cemo Cems Cemt Cemu Cemv Cemx. -/
import Derived.Deep.AppendLies
import Derived.Deep.RegionHeld3
import Derived.BigQuiet
import Derived.Deep.QuietTactic
import Derived.Lib.ItoaNum
import Derived.OwnWalk
import Derived.Deep.RegionLawGrows
import Derived.Laws.FloatArith
import Derived.WalkLawsBesides
import Derived.Laws.Externs
import Derived.Laws.BitsAllLaws
import Derived.Lib.Hide
import Derived.Shelf.Spec.TrailingZeros
import Derived.Laws.Bits64b
import Derived.Lib.BitFns
import Derived.Lib.Small
import Derived.Lib.Strings
import Derived.Lib.Slices
import Derived.Lib.Walk
import Derived.WalkKit
import Derived.WalkSpells
import Derived.WalkSmall
import Derived.Laws.Bits64
import Derived.Deep.Draws
import Derived.Deep.DeepCutAuto
import Derived.Laws.BytesArg
import Derived.Deep.LoopGhost
import Derived.Deep.RegionLaw
import Derived.Outline
import Derived.Deep.RegionWith
import Derived.RegionTactic
import Derived.ChangeAlike
import Derived.Laws.IdiomStrings
import Derived.ProofKit
import Derived.LaidMore
import Derived.OpenShut
import Derived.Stop.Joined
import Derived.Lib.LaidTab
import Derived.ChangeSlices
import Derived.Deep.CutBlock
import Derived.Deep.RegionHeld
import Derived.Deep.DrawnRows
import Derived.Lib.AppendZeros
import Derived.Maps.OwnSet
import Derived.Below
import Derived.SliceStrings
import Derived.Deep.CutRange
import Derived.Deep.Slices
import Derived.Deep.Fields
import Derived.ChangeSame
import Derived.Lib.SmallJoins
import Derived.Lib.Bytealg
import Derived.Lib.ConvBytes
import Derived.Laws.CopyRow
import Derived.Laws.IdiomCopy
import Derived.Laws.OwnMore
import Derived.Laws.MakeOwn
import Derived.Maps.Ext
import Derived.Maps.RangeWalk
import Derived.Sort.OwnSorted
import Derived.Shelf.SlSortCmp.WholeK
import Derived.Shelf.SlSortCmp.NoneTotal
import Derived.Test.YtmnbljijnbhghaaGreatDoorProg
import Derived.Test.YtmnbljijnbhghaaGreatDoorRows
import Derived.Test.YtmnbljijnbhghaaGreatDoorPp01
import Derived.Test.YtmnbljijnbhghaaGreatDoorPp02
import Derived.Test.YtmnbljijnbhghaaGreatDoorPt01
import Derived.Test.YtmnbljijnbhghaaGreatDoorPt02
import Derived.Test.YtmnbljijnbhghaaGreatDoorPt03
import Derived.Test.YtmnbljijnbhghaaGreatDoorPt04
import Derived.Test.YtmnbljijnbhghaaGreatDoorPt05
import Derived.Test.YtmnbljijnbhghaaGreatDoorPt06
import Derived.Test.YtmnbljijnbhghaaGreatDoorPt07
import Derived.Test.YtmnbljijnbhghaaGreatDoorPt08
import Derived.Test.YtmnbljijnbhghaaGreatDoorPt09
import Derived.Test.YtmnbljijnbhghaaGreatDoorPt10
import Derived.Test.YtmnbljijnbhghaaGreatDoorPt11
import Derived.Test.YtmnbljijnbhghaaGreatDoorPt12
import Derived.Test.YtmnbljijnbhghaaGreatDoorPt13
import Derived.Test.YtmnbljijnbhghaaGreatDoorPt14
import Derived.Test.YtmnbljijnbhghaaGreatDoorPt15
import Derived.Test.YtmnbljijnbhghaaGreatDoorPt16
import Derived.Test.YtmnbljijnbhghaaGreatDoorPt17
import Derived.Test.YtmnbljijnbhghaaGreatDoorPt18
import Derived.Test.YtmnbljijnbhghaaGreatDoorPt19
import Derived.Test.YtmnbljijnbhghaaGreatDoorPt20
import Derived.Test.YtmnbljijnbhghaaGreatDoorPt21
import Derived.Test.YtmnbljijnbhghaaGreatDoorPt22
import Derived.Test.YtmnbljijnbhghaaGreatDoorPt23
import Derived.Test.YtmnbljijnbhghaaGreatDoorPt24
import Derived.Test.YtmnbljijnbhghaaGreatDoorPt25
import Derived.Test.YtmnbljijnbhghaaGreatDoorPt26
import Derived.Test.YtmnbljijnbhghaaGreatDoorPt27
import Derived.Test.YtmnbljijnbhghaaGreatDoorPt28
import Derived.Test.YtmnbljijnbhghaaGreatDoorPt29
import Derived.Test.YtmnbljijnbhghaaGreatDoorPt30
import Derived.Test.YtmnbljijnbhghaaGreatDoorPt31
import Derived.Test.YtmnbljijnbhghaaGreatDoorPt32
import Derived.Test.YtmnbljijnbhghaaGreatDoorPt33
namespace Go.Proofs.YtmnbljijnbhghaaGreatDoor
set_option maxRecDepth 100000
open Go.RowKit
set_option linter.unusedVariables false
set_option maxHeartbeats 1000000 in
theorem zxck (w:World) (n:Nat) (hn:n ≤ 9223372036854775807) :
  Calls Tryz.prog 60 #[.int .i64 n] w fun e w' => (∃ x:Int,e = .returned (.int .u32 x) ∧ 0 ≤ x ∧ x ≤ 4294967295) ∧ w = w':=by
 have HWr:=zh (fun y:Int => show 0 ≤ IntKind.u32.wrap y ∧ IntKind.u32.wrap y ≤ 4294967295 from by rw [IntKind.wrap_u32]; omega)
 go_enter Tryz.func60,Tryz.ntmps60;go_wp2;go_loopw [3,4] (fun x i wr => ∃ k:Nat,k ≤ n ∧ i = .int .i64 k ∧ w = wr ∧ ∃ y:Int,x = .int .u32 y ∧ Hid (0 ≤ y ∧ y ≤ 4294967295)) (fun _ i _ => n - (intOf i).toNat)
 case atStart => exact ⟨0,Nat.zero_le _,rfl,rfl,1,rfl,zh ⟨by decide,by decide⟩⟩
 case round =>
  obtain ⟨k,hk,rfl,rfl,y,rfl,HY⟩:=hrel
  by_cases hlk:k < n
  ·have HY2:=zh (HWr.out (2 * y));go_wp2;go_roundw
   case rel => exact ⟨k + 1,by omega,by go_num,by trivial,_,rfl,HY2⟩
   case measure => simp [intOf]; omega
  ·have:k = n:=by omega
   subst this;go_wp2;go_ret;exact ⟨⟨y,rfl,HY.out.1,HY.out.2⟩,rfl⟩
set_option maxHeartbeats 1000000 in
theorem zxbz (w:World) (D I M V:Value) (S:Sc) (h:Sch4 w D I M V S) (hn:S.ds.length ≤ 9223372036854775807) :
  Calls Tryz.prog 30 #[SchV D I M V] w fun e w' => (∃ x:Int,e = .returned (.int .u32 x) ∧ 0 ≤ x ∧ x ≤ 4294967295) ∧ Below w.heap.size w w':=by
 obtain ⟨⟨a,c,rfl⟩,-,-,-⟩:=h.slices;have HB:=zh (zqab w (SchO (.slice a S.ds.length c) I M V));have HT:=zh (fun w => zxck w S.ds.length hn)
 have HWr:=zh (fun y:Int => show 0 ≤ IntKind.u32.wrap y ∧ IntKind.u32.wrap y ≤ 4294967295 from by rw [IntKind.wrap_u32]; omega)
 clear h;go_enter Tryz.func30,Tryz.ntmps30;go_wp2_with fail;refine (HT.out _).mono ?_; rintro e w1 ⟨⟨x,rfl,-,-⟩,rfl⟩;go_wp2_with fail;go_ret;exact ⟨⟨_,rfl,HWr.out _⟩,HB.out⟩
theorem MergeP.lis {w w':World} {a b:List Ce} {e:Ending} (h:MergeP w a b e w'):LisP w (mergeE a b) e w':=by
 obtain ⟨r,rfl,ps,hr,hp,hb⟩:=h;obtain ⟨x,c,rfl⟩:=hr.any;have hc:=hr.cells;rw [hp] at hc;exact ⟨x,_,c,rfl,by rw [← hp,List.length_map],hc,hb⟩
theorem zxb0 {S:Sc} {m:Int} {c:Ce} (h:rightC S m c = true):∀ k,k < c.is.length → Tidy (wg c.is k).sq:=fun k hk => by
 unfold rightC validC at h;simp only [Bool.and_eq_true,decide_eq_true_eq] at h;obtain ⟨-,⟨-,h5⟩,-⟩:=h;have h1:=List.all_eq_true.1 h5 k (by simpa using hk)
 unfold rightW at h1;simp only [Bool.and_eq_true,decide_eq_true_eq] at h1;exact zqlx.1 h1.2
def sumZ {α:Type} (f:α → Int) (l:List α):Int:=(l.map f).sum
theorem zxbj {α:Type} (f:α → Int):sumZ f [] = 0:=rfl
theorem zxaa {α:Type} (f:α → Int) (a:α) (l:List α):sumZ f (a :: l) = f a + sumZ f l:=by simp [sumZ]
theorem zxac {α:Type} (f:α → Int) (l m:List α):sumZ f (l ++ m) = sumZ f l + sumZ f m:=by simp [sumZ]
theorem zxae {α:Type} (f:α → Int) {l m:List α} (h:l.Perm m):sumZ f l = sumZ f m:=by
 induction h with
 | nil => rfl
 | cons x _ ih => rw [zxaa,zxaa,ih]
 | swap x y l => rw [zxaa,zxaa,zxaa,zxaa]; omega
 | trans _ _ h1 h2 => exact h1.trans h2
theorem zxcj {α:Type} {f:α → Int} {l m:List α} (h:l.Sublist m) (h0:∀ x ∈ m,0 ≤ f x):sumZ f l ≤ sumZ f m:=by
 induction h with
 | slnil => exact Int.le_refl _
 | cons a _ ih =>
  rw [zxaa];have:=ih fun x hx => h0 x (List.mem_cons_of_mem _ hx)
  have:=h0 a (List.mem_cons_self ..);omega
 | cons_cons a _ ih =>
  rw [zxaa,zxaa];have:=ih fun x hx => h0 x (List.mem_cons_of_mem _ hx)
  omega
def LeZ {α:Type} (f:α → Int) (l:List α) (z:Int):Prop:=(∃ x ∈ l,f x = z) ∧ ∀ x ∈ l,z ≤ f x
def GeZ {α:Type} (f:α → Int) (l:List α) (z:Int):Prop:=(∃ x ∈ l,f x = z) ∧ ∀ x ∈ l,f x ≤ z
theorem LeZ.one {α:Type} {f:α → Int} {l m:List α} {y z:Int} (h:LeZ f l y) (k:LeZ f m z) (hm:∀ x,x ∈ l ↔ x ∈ m):y = z:=by
 obtain ⟨⟨a,ha,rfl⟩,h2⟩:=h;obtain ⟨⟨b,hb,rfl⟩,k2⟩:=k;have:=h2 b ((hm b).2 hb);have:=k2 a ((hm a).1 ha);omega
theorem GeZ.one {α:Type} {f:α → Int} {l m:List α} {y z:Int} (h:GeZ f l y) (k:GeZ f m z) (hm:∀ x,x ∈ l ↔ x ∈ m):y = z:=by
 obtain ⟨⟨a,ha,rfl⟩,h2⟩:=h;obtain ⟨⟨b,hb,rfl⟩,k2⟩:=k;have:=h2 b ((hm b).2 hb);have:=k2 a ((hm a).1 ha);omega
theorem LeZ.app {α:Type} {f:α → Int} {l m:List α} {y z v:Int} (h:LeZ f l y) (k:LeZ f m z) (hv:v = if z < y then z else y):LeZ f (l ++ m) v:=by
 obtain ⟨⟨a,ha,rfl⟩,h2⟩:=h;obtain ⟨⟨b,hb,rfl⟩,k2⟩:=k;rw [hv]
 by_cases q:f b < f a
 ·rw [if_pos q];refine ⟨⟨b,List.mem_append_right _ hb,rfl⟩,fun x hx => ?_⟩
  rcases List.mem_append.1 hx with hx | hx
  ·have:=h2 x hx; omega
  ·exact k2 x hx
 ·rw [if_neg q];refine ⟨⟨a,List.mem_append_left _ ha,rfl⟩,fun x hx => ?_⟩
  rcases List.mem_append.1 hx with hx | hx
  ·exact h2 x hx
  ·have:=k2 x hx; omega
theorem GeZ.app {α:Type} {f:α → Int} {l m:List α} {y z v:Int} (h:GeZ f l y) (k:GeZ f m z) (hv:v = if y < z then z else y):GeZ f (l ++ m) v:=by
 obtain ⟨⟨a,ha,rfl⟩,h2⟩:=h;obtain ⟨⟨b,hb,rfl⟩,k2⟩:=k;rw [hv]
 by_cases q:f a < f b
 ·rw [if_pos q];refine ⟨⟨b,List.mem_append_right _ hb,rfl⟩,fun x hx => ?_⟩
  rcases List.mem_append.1 hx with hx | hx
  ·have:=h2 x hx; omega
  ·exact k2 x hx
 ·rw [if_neg q];refine ⟨⟨a,List.mem_append_left _ ha,rfl⟩,fun x hx => ?_⟩
  rcases List.mem_append.1 hx with hx | hx
  ·exact h2 x hx
  ·have:=k2 x hx; omega
structure Rep (ni nn:Nat) (c:Ce) (G:List Ce):Prop where
 ne:G ≠ []
 li:c.is.length = ni
 ln:c.ns.length = nn
 cnt:c.cnt = sumZ (fun x => x.cnt) G
 sum:∀ k,k < ni → (wg c.is k).sum = sumZ (fun x => (wg x.is k).sum) G
 abs:∀ k,k < ni → (wg c.is k).abs = sumZ (fun x => (wg x.is k).abs) G
 sq:∀ k,k < ni → wv (wg c.is k).sq = sumZ (fun x => wv (wg x.is k).sq) G
 wd:∀ k,k < ni → Wd (wg c.is k).sq
 ty:∀ k,k < ni → Tidy (wg c.is k).sq
 mn:∀ k,k < ni → LeZ (fun x => (wg x.is k).mn) G (wg c.is k).mn
 mx:∀ k,k < ni → GeZ (fun x => (wg x.is k).mx) G (wg c.is k).mx
 bt:∀ k,k < nn → Bt5 (rg c.ns k).sum
 er:∀ k,k < nn → errN (rg c.ns k).sum = 0
 tt:∀ k,k < nn → readT (rg c.ns k).sum = sumZ (fun x => readT (rg x.ns k).sum) G
 fl:∀ k,k < nn → ∀ j,(readF (rg c.ns k).sum).testBit j = true ↔ ∃ x ∈ G,(readF (rg x.ns k).sum).testBit j = true
 kn:∀ k,k < nn → LeZ (fun x => keyI (rg x.ns k).mn) G (keyI (rg c.ns k).mn)
 kx:∀ k,k < nn → GeZ (fun x => keyI (rg x.ns k).mx) G (keyI (rg c.ns k).mx)
theorem Rep.key {ni nn:Nat} {c:Ce} {G:List Ce} (h:Rep ni nn c G) (q:Int):Rep ni nn ⟨q,c.cnt,c.is,c.ns⟩ G :=
 ⟨h.ne,h.li,h.ln,h.cnt,h.sum,h.abs,h.sq,h.wd,h.ty,h.mn,h.mx,h.bt,h.er,h.tt,h.fl,h.kn,h.kx⟩
theorem Rep.perm {ni nn:Nat} {c:Ce} {G H:List Ce} (h:Rep ni nn c G) (p:G.Perm H):Rep ni nn c H:=by
 have hm:∀ x,x ∈ G ↔ x ∈ H:=fun x => p.mem_iff
 refine ⟨fun e => h.ne (by rw [e] at p; exact p.eq_nil),h.li,h.ln,h.cnt.trans (zxae _ p),fun k hk => (h.sum k hk).trans (zxae _ p),fun k hk => (h.abs k hk).trans (zxae _ p),fun k hk => (h.sq k hk).trans (zxae _ p),h.wd,h.ty,fun k hk => ?_,fun k hk => ?_,h.bt,h.er,fun k hk => (h.tt k hk).trans (zxae _ p),fun k hk j => ?_,fun k hk => ?_,fun k hk => ?_⟩
 ·obtain ⟨⟨a,ha,e⟩,h2⟩:=h.mn k hk;exact ⟨⟨a,(hm a).1 ha,e⟩,fun x hx => h2 x ((hm x).2 hx)⟩
 ·obtain ⟨⟨a,ha,e⟩,h2⟩:=h.mx k hk;exact ⟨⟨a,(hm a).1 ha,e⟩,fun x hx => h2 x ((hm x).2 hx)⟩
 ·rw [h.fl k hk j];exact ⟨fun ⟨x,hx,q⟩ => ⟨x,(hm x).1 hx,q⟩,fun ⟨x,hx,q⟩ => ⟨x,(hm x).2 hx,q⟩⟩
 ·obtain ⟨⟨a,ha,e⟩,h2⟩:=h.kn k hk;exact ⟨⟨a,(hm a).1 ha,e⟩,fun x hx => h2 x ((hm x).2 hx)⟩
 ·obtain ⟨⟨a,ha,e⟩,h2⟩:=h.kx k hk;exact ⟨⟨a,(hm a).1 ha,e⟩,fun x hx => h2 x ((hm x).2 hx)⟩
theorem Rep.same {ni nn:Nat} {c d:Ce} {G:List Ce} (h:Rep ni nn c G) (k:Rep ni nn d G) (hk:c.key = d.key):sameC c d = true :=
 same_iff.2 {
  key:=hk
  cnt:=h.cnt.trans k.cnt.symm
  li:=h.li.trans k.li.symm
  ln:=h.ln.trans k.ln.symm
  is:=fun i hi => by
   have hi2:i < ni:=by rw [← h.li]; exact hi
   unfold sameWh;rw [(h.sum i hi2).trans (k.sum i hi2).symm,(h.abs i hi2).trans (k.abs i hi2).symm,(h.mn i hi2).one (k.mn i hi2) fun x => Iff.rfl,(h.mx i hi2).one (k.mx i hi2) fun x => Iff.rfl,zqbb (h.wd i hi2) (k.wd i hi2) (h.ty i hi2) (k.ty i hi2) ((h.sq i hi2).trans (k.sq i hi2).symm)]
   simp
  ns:=fun i hi => by
   have hi2:i < nn:=by rw [← h.ln]; exact hi
   have e1:readF (rg c.ns i).sum = readF (rg d.ns i).sum:=Nat.eq_of_testBit_eq fun j => by
    have h1:=h.fl i hi2 j;have h2:=k.fl i hi2 j
    by_cases q:∃ x ∈ G,(readF (rg x.ns i).sum).testBit j = true
    ·rw [h1.2 q,h2.2 q]
    ·rw [eq_false_of_ne_true fun e => q (h1.1 e),eq_false_of_ne_true fun e => q (h2.1 e)]
   have e2:=(h.tt i hi2).trans (k.tt i hi2).symm;have e3:=zqxf (h.bt i hi2) (h.er i hi2);rw [e1,e2] at e3;unfold sameRe sameB;rw [e3.unique (zqxf (k.bt i hi2) (k.er i hi2)),(h.kn i hi2).one (k.kn i hi2) fun x => Iff.rfl,(h.kx i hi2).one (k.kx i hi2) fun x => Iff.rfl]
   simp }
theorem zxbn {S:Sc} {m:Int} {c:Ce} (h:rightC S m c = true) (hw:CeW c):Rep S.is.length S.ns.length c [c]:=by
 have ht:=zxb0 h;unfold rightC validC at h;simp only [Bool.and_eq_true,decide_eq_true_eq] at h;obtain ⟨-,⟨⟨-,h3⟩,h4⟩,-⟩:=id h;obtain ⟨-,⟨⟨⟨-,h3⟩,h4⟩,h5⟩,h6⟩:=h;have he:∀ k,k < S.ns.length → errN (rg c.ns k).sum = 0:=fun k hk => by
  have:=List.all_eq_true.1 h6 k (by simpa using (by omega:k < c.ns.length))
  unfold rightR at this;simp only [Bool.and_eq_true,decide_eq_true_eq] at this;exact this.1
 have s1:∀ f:Ce → Int,f c = sumZ f [c]:=fun f => by rw [zxaa,zxbj]; omega
 have l1:∀ f:Ce → Int,LeZ f [c] (f c):=fun f => ⟨⟨c,List.mem_singleton.2 rfl,rfl⟩,fun x hx => by rw [List.mem_singleton.1 hx]; exact Int.le_refl _⟩
 have g1:∀ f:Ce → Int,GeZ f [c] (f c):=fun f => ⟨⟨c,List.mem_singleton.2 rfl,rfl⟩,fun x hx => by rw [List.mem_singleton.1 hx]; exact Int.le_refl _⟩
 exact ⟨by simp,h3,h4,s1 _,fun k _ => s1 fun x => (wg x.is k).sum,fun k _ => s1 fun x => (wg x.is k).abs,fun k _ => s1 fun x => wv (wg x.is k).sq,fun k hk => (hw.wg (by omega)).sq,fun k hk => ht k (by omega),fun k _ => l1 fun x => (wg x.is k).mn,fun k _ => g1 fun x => (wg x.is k).mx,fun k hk => (hw.rg (by omega)).sum,he,fun k _ => s1 fun x => readT (rg x.ns k).sum,fun k _ j => by simp,fun k _ => l1 fun x => keyI (rg x.ns k).mn,fun k _ => g1 fun x => keyI (rg x.ns k).mx⟩
theorem Rep.join {ni nn:Nat} {x y z:Ce} {G H:List Ce} (h:Rep ni nn x G) (k:Rep ni nn y H) (wx:CeW x) (wy:CeW y) (hj:JC x y z):Rep ni nn z (G ++ H):=by
 have hW:∀ i,i < ni → JW (wg x.is i) (wg y.is i) (wg z.is i):=fun i hi => hj.is i (by rw [h.li]; exact hi)
 have hR:∀ i,i < nn → JR (rg x.ns i) (rg y.ns i) (rg z.ns i):=fun i hi => hj.ns i (by rw [h.ln]; exact hi)
 have hE:∀ i,i < nn → errN (rg z.ns i).sum = 0:=fun i hi => by
  have hr:=hR i hi;exact zxa4 (Good.join (zqgs (wx.rg (by rw [h.ln]; exact hi)).sum hr.e1).1 (zqgs (wy.rg (by rw [k.ln]; exact hi)).sum hr.e2).1 hr.ft) hr.sum
 have hrd:∀ i,(hi:i < nn) → readF (rg z.ns i).sum = readF (rg x.ns i).sum ||| readF (rg y.ns i).sum ∧ readT (rg z.ns i).sum = readT (rg x.ns i).sum + readT (rg y.ns i).sum:=fun i hi => (hR i hi).reads (hR i hi).bt (hE i hi)
 refine ⟨fun e => h.ne (List.append_eq_nil_iff.1 e).1,hj.li.trans h.li,hj.ln.trans h.ln,by rw [hj.cnt,zxac,h.cnt,k.cnt],fun i hi => by rw [(hW i hi).sum,zxac,h.sum i hi,k.sum i hi],fun i hi => by rw [(hW i hi).abs,zxac,h.abs i hi,k.abs i hi],fun i hi => by rw [(hW i hi).sq,zxac,h.sq i hi,k.sq i hi],fun i hi => (hW i hi).wd,fun i hi => (hW i hi).ty,fun i hi => (h.mn i hi).app (k.mn i hi) (by rw [(hW i hi).mn]; split <;> omega),fun i hi => (h.mx i hi).app (k.mx i hi) (by rw [(hW i hi).mx]; split <;> omega),fun i hi => (hR i hi).bt,hE,fun i hi => by rw [(hrd i hi).2,zxac,h.tt i hi,k.tt i hi],fun i hi j => ?_,fun i hi => (h.kn i hi).app (k.kn i hi) ?_,fun i hi => (h.kx i hi).app (k.kx i hi) ?_⟩
 ·rw [(hrd i hi).1,Nat.testBit_or,Bool.or_eq_true,h.fl i hi j,k.fl i hi j]
  constructor
  ·rintro (⟨a,ha,q⟩ | ⟨a,ha,q⟩)
   ·exact ⟨a,List.mem_append_left _ ha,q⟩
   ·exact ⟨a,List.mem_append_right _ ha,q⟩
  ·rintro ⟨a,ha,q⟩;rcases List.mem_append.1 ha with ha | ha
   ·exact .inl ⟨a,ha,q⟩
   ·exact .inr ⟨a,ha,q⟩
 ·rw [(hR i hi).mn];unfold lessB
  by_cases q:keyI (rg y.ns i).mn < keyI (rg x.ns i).mn
  ·rw [if_pos (decide_eq_true q),if_pos q]
  ·rw [if_neg (by simpa using q),if_neg q]
 ·rw [(hR i hi).mx];unfold lessB
  by_cases q:keyI (rg x.ns i).mx < keyI (rg y.ns i).mx
  ·rw [if_pos (decide_eq_true q),if_pos q]
  ·rw [if_neg (by simpa using q),if_neg q]
def grp (κ:Ce → Int) (q:Int) (l:List Ce):List Ce:=l.filter fun f => decide (κ f = q)
theorem zxa7 (κ:Ce → Int) (q:Int) (l m:List Ce):grp κ q (l ++ m) = grp κ q l ++ grp κ q m:=List.filter_append ..
theorem zxa6 {κ:Ce → Int} {q:Int} {l:List Ce} (h:∀ f ∈ l,κ f = q):grp κ q l = l:=List.filter_eq_self.2 fun f hf => decide_eq_true (h f hf)
theorem zxaz {κ:Ce → Int} {q:Int} {l:List Ce} (h:∀ f ∈ l,κ f ≠ q):grp κ q l = []:=List.filter_eq_nil_iff.2 fun f hf => by simpa using h f hf
theorem zxap {κ:Ce → Int} {q:Int} {l:List Ce} {f:Ce}:f ∈ grp κ q l ↔ f ∈ l ∧ κ f = q:=by simp [grp]
structure RepL (ni nn:Nat) (κ:Ce → Int) (L Fs:List Ce):Prop where
 r:risingC L
 c:∀ c ∈ L,Rep ni nn c (grp κ c.key Fs)
 a:∀ f ∈ Fs,∃ c ∈ L,c.key = κ f
theorem RepL.nil (ni nn:Nat) (κ:Ce → Int):RepL ni nn κ [] []:=⟨List.Pairwise.nil,(fun c h => nomatch h),(fun f h => nomatch h)⟩
theorem RepL.perm {ni nn:Nat} {κ:Ce → Int} {L Fs Gs:List Ce} (h:RepL ni nn κ L Fs) (p:Fs.Perm Gs):RepL ni nn κ L Gs :=
 ⟨h.r,fun c hc => (h.c c hc).perm (p.filter _),fun f hf => h.a f (p.mem_iff.2 hf)⟩
theorem RepL.with {ni nn:Nat} {κ:Ce → Int} {L Fs G:List Ce} {c:Ce} (h:RepL ni nn κ L Fs) (hw:∀ x ∈ L,x.key = c.key → CeW x) (hc:Rep ni nn c G) (wc:CeW c) (hk:∀ f ∈ G,κ f = c.key) (he:(withL L c).1 = 0):RepL ni nn κ (withL L c).2 (Fs ++ G):=by
 cases hl:lookC L c.key with
 | none =>
  have hno:=zqg3 hl;obtain ⟨-,-,h3,h4⟩:=zqx1 h.r hno;refine ⟨h3,fun z hz => ?_,fun f hf => ?_⟩
  ·rw [zxa7];rcases (h4 z).1 hz with rfl | hz
   ·rw [zxaz (l:=Fs) fun f hf e => by
     obtain ⟨x,hx,e2⟩:=h.a f hf;exact hno x hx (e2.trans e),zxa6 hk,List.nil_append]
    exact hc
   ·rw [zxaz (l:=G) fun f hf e => hno z hz (by rw [← e,hk f hf]),List.append_nil]
    exact h.c z hz
  ·rcases List.mem_append.1 hf with hf | hf
   ·obtain ⟨x,hx,e⟩:=h.a f hf;exact ⟨x,(h4 x).2 (.inr hx),e⟩
   ·exact ⟨c,(h4 c).2 (.inl rfl),(hk f hf).symm⟩
 | some x =>
  obtain ⟨hx,hxk⟩:=zqde hl;obtain ⟨h1,h2⟩:=zqir h.r hx hxk;have h0:errJ x c = 0:=h1.symm.trans he;obtain ⟨-,h3,h4⟩:=h2 h0;have hj:=zqk6 (hw x hx hxk) wc h0;refine ⟨h3,fun z hz => ?_,fun f hf => ?_⟩
  ·rw [zxa7];rcases (h4 z).1 hz with rfl | ⟨hz,hne⟩
   ·rw [hj.key,hxk,zxa6 hk];have:=h.c x hx;rw [hxk] at this;exact this.join hc (hw x hx hxk) wc hj
   ·rw [zxaz (l:=G) fun f hf e => hne (by rw [← e,hk f hf]),List.append_nil]
    exact h.c z hz
  ·rcases List.mem_append.1 hf with hf | hf
   ·obtain ⟨y,hy,e⟩:=h.a f hf
    by_cases q:y.key = c.key
    ·exact ⟨joinC x c,(h4 _).2 (.inl rfl),by rw [hj.key,hxk,← q,e]⟩
    ·exact ⟨y,(h4 y).2 (.inr ⟨hy,q⟩),e⟩
   ·exact ⟨joinC x c,(h4 _).2 (.inl rfl),by rw [hj.key,hxk,hk f hf]⟩
def Stays (r:Ce → Ce) (Inv:List Ce → List Ce → Prop):Prop:=∀ L c cs,Inv L (c :: cs) → (∀ x ∈ L,x.key = (r c).key → CeW x) ∧ ((withL L (r c)).1 = 0 → Inv (withL L (r c)).2 cs)
theorem RepL.fold {ni nn:Nat} {κ:Ce → Int} {r:Ce → Ce} {g:Ce → List Ce} {Inv:List Ce → List Ce → Prop} (hI:Stays r Inv):∀ (cs:List Ce) {L Fs:List Ce},RepL ni nn κ L Fs → Inv L cs → (∀ c ∈ cs,Rep ni nn (r c) (g c) ∧ CeW (r c) ∧ ∀ f ∈ g c,κ f = (r c).key) → (foldC L (cs.map r)).1 = 0 →
  RepL ni nn κ (foldC L (cs.map r)).2 (Fs ++ cs.flatMap g) ∧ Inv (foldC L (cs.map r)).2 []
 | [],L,Fs,h,hi,_,_ => by
  rw [List.flatMap_nil,List.append_nil];exact ⟨h,hi⟩
 | c :: cs,L,Fs,h,hi,hc,he => by
  obtain ⟨c1,c2,c3⟩:=hc c (List.mem_cons_self ..);obtain ⟨i1,i2⟩:=hI L c cs hi;rw [List.map_cons] at he ⊢;unfold foldC at he ⊢
  by_cases hw:(withL L (r c)).1 = 0
  ·rw [if_pos hw] at he ⊢;have:=RepL.fold hI cs (h.with i1 c1 c2 c3 hw) (i2 hw) (fun d hd => hc d (List.mem_cons_of_mem _ hd)) he
   rw [List.flatMap_cons,← List.append_assoc];exact this
  ·rw [if_neg hw] at he; exact absurd he hw
def InvS (r:Ce → Ce) (L cs:List Ce):Prop:=∃ n,1 ≤ n ∧ n + cs.length ≤ 1000 ∧ (∀ x ∈ L,Sv n x) ∧ ∀ c ∈ cs,Sv 1 (r c)
theorem invS (r:Ce → Ce):Stays r (InvS r):=fun L c cs ⟨n,h1,h2,h3,h4⟩ => by
 simp only [List.length_cons] at h2;exact ⟨fun x hx _ => (h3 x hx).1,fun _ => ⟨n + 1,by omega,by omega,fun x hx => zqko h3 (h4 c (List.mem_cons_self ..)) h1 (by omega) x hx,fun d hd => h4 d (List.mem_cons_of_mem _ hd)⟩⟩
def InvM (L cs:List Ce):Prop:=risingC L ∧ risingC cs ∧ (∀ x ∈ L,CeW x ∧ ((∃ c ∈ cs,c.key = x.key) → ShortC 30 x)) ∧ ∀ c ∈ cs,CeW c ∧ ShortC 30 c
theorem invM:Stays id InvM:=fun L c cs ⟨h1,h2,h3,h4⟩ => by
 have hrh:=zqaz h2;have hc:=h4 c (List.mem_cons_self ..);refine ⟨fun x hx _ => (h3 x hx).1,fun he => ⟨zxah h1 he,zqbn h2,fun z hz => ?_,fun d hd => h4 d (List.mem_cons_of_mem _ hd)⟩⟩
 have hk:∀ d,d ∈ cs → d.key ≠ c.key:=fun d hd e => by have:=hrh d hd; omega
 cases hl:lookC L c.key with
 | none =>
  rcases ((zqx1 h1 (zqg3 hl)).2.2.2 z).1 hz with rfl | hz
  ·exact ⟨hc.1,fun _ => hc.2⟩
  ·exact ⟨(h3 z hz).1,fun ⟨d,hd,e⟩ => (h3 z hz).2 ⟨d,List.mem_cons_of_mem _ hd,e⟩⟩
 | some x =>
  obtain ⟨hx,hxk⟩:=zqde hl;obtain ⟨k1,k2⟩:=zqir h1 hx hxk;have h0:errJ x c = 0:=k1.symm.trans he;rcases ((k2 h0).2.2 z).1 hz with rfl | ⟨hz,_⟩
  ·have hj:=zqk6 (h3 x hx).1 hc.1 h0;have hsx:=(h3 x hx).2 ⟨c,List.mem_cons_self ..,hxk.symm⟩;obtain ⟨q1,q2,q3,-⟩:=zqfp h0;have hs:=hj.short (h3 x hx).1 hc.1 hsx hc.2 q2;refine ⟨hj.w (h3 x hx).1 hc.1 hs (by decide) h0,fun ⟨d,hd,e⟩ => ?_⟩
   rw [hj.key,hxk] at e;exact absurd e (hk d hd)
  ·exact ⟨(h3 z hz).1,fun ⟨d,hd,e⟩ => (h3 z hz).2 ⟨d,List.mem_cons_of_mem _ hd,e⟩⟩
structure Lf (ni nn:Nat) (x:Ce):Prop where
 li:x.is.length = ni
 ln:x.ns.length = nn
 cnt:x.cnt = 1
 abs:∀ k,k < ni → 0 ≤ (wg x.is k).abs ∧ -(wg x.is k).abs ≤ (wg x.is k).sum ∧ (wg x.is k).sum ≤ (wg x.is k).abs
 tt:∀ k,k < nn → Fewer 1 (readT (rg x.ns k).sum)
 sq:∀ k,k < ni → wv (wg x.is k).sq ≤ 85070591730234615865843651857942052864
def OkG (ni:Nat) (G:List Ce):Prop:=∀ k,k < ni → sumZ (fun x => (wg x.is k).abs) G ≤ 9223372036854775807
theorem OkG.sub {ni nn:Nat} {G H:List Ce} (h:OkG ni H) (hs:G.Sublist H) (hl:∀ x ∈ H,Lf ni nn x):OkG ni G:=fun k hk =>
 Int.le_trans (zxcj hs fun x hx => ((hl x hx).abs k hk).1) (h k hk)
theorem OkG.perm {ni:Nat} {G H:List Ce} (h:OkG ni G) (p:G.Perm H):OkG ni H:=fun k hk => by rw [← zxae _ p]; exact h k hk
theorem Rep.okG {ni nn:Nat} {c:Ce} {G:List Ce} (h:Rep ni nn c G) (hw:CeW c):OkG ni G:=fun k hk => by
 rw [← h.abs k hk];exact (hw.wg (by rw [h.li]; exact hk)).abs.2
theorem zxcr {ni nn:Nat} {G:List Ce} (hl:∀ x ∈ G,Lf ni nn x):sumZ (fun x => x.cnt) G = G.length:=by
 induction G with
 | nil => rfl
 | cons a G ih =>
  rw [zxaa,ih fun x hx => hl x (List.mem_cons_of_mem _ hx),(hl a (List.mem_cons_self ..)).cnt,List.length_cons]
  omega
theorem zxcq {ni nn:Nat} {G:List Ce} (hl:∀ x ∈ G,Lf ni nn x) {k:Nat} (hk:k < ni):0 ≤ sumZ (fun x => (wg x.is k).abs) G ∧ -sumZ (fun x => (wg x.is k).abs) G ≤ sumZ (fun x => (wg x.is k).sum) G ∧ sumZ (fun x => (wg x.is k).sum) G ≤ sumZ (fun x => (wg x.is k).abs) G:=by
 induction G with
 | nil => simp [sumZ]
 | cons a G ih =>
  have h1:=ih fun x hx => hl x (List.mem_cons_of_mem _ hx)
  have h2:=(hl a (List.mem_cons_self ..)).abs k hk;rw [zxaa,zxaa];omega
theorem zxcx {ni nn:Nat} {G:List Ce} (hl:∀ x ∈ G,Lf ni nn x) {k:Nat} (hk:k < nn):Fewer G.length (sumZ (fun x => readT (rg x.ns k).sum) G):=by
 induction G with
 | nil => exact Fewer.zero
 | cons a G ih =>
  rw [zxaa,List.length_cons,Nat.add_comm];exact ((hl a (List.mem_cons_self ..)).tt k hk).add (ih fun x hx => hl x (List.mem_cons_of_mem _ hx))
theorem zxcd {ni nn:Nat} {x y:Ce} {G H:List Ce} (h:Rep ni nn x G) (k:Rep ni nn y H) (hk:x.key = y.key) (ho:OkG ni (G ++ H)) (hl:∀ z ∈ G ++ H,Lf ni nn z) (hn:(G ++ H).length ≤ 1000):errJ x y = 0:=by
 have hn2:(G ++ H).length = G.length + H.length:=List.length_append;unfold errJ;rw [if_pos ⟨hk,h.li.trans k.li.symm,h.ln.trans k.ln.symm⟩,if_pos]
 ·refine zqdo _ fun i hi => ?_
  have hi2:i < nn:=by rw [← h.ln]; exact hi
  unfold rErr;rw [if_pos ⟨h.er i hi2,k.er i hi2⟩,if_pos];have:=(zxcx hl hi2).fits hn;rw [zxac,← h.tt i hi2,← k.tt i hi2] at this;exact this
 ·constructor
  ·rw [h.cnt,k.cnt,← zxac,zxcr hl];unfold fitB;simp;omega
  ·intro i hi;have hi2:i < ni:=by rw [← h.li]; exact hi
   have h1:=zxcq hl hi2;have h2:=ho i hi2;unfold okW fitB;rw [h.sum i hi2,k.sum i hi2,h.abs i hi2,k.abs i hi2,← zxac,← zxac];simp;omega
theorem zxcs {ni nn:Nat} {κ:Ce → Int} {L Fs G:List Ce} {c:Ce} (h:RepL ni nn κ L Fs) (hc:Rep ni nn c G) (hk:∀ f ∈ G,κ f = c.key) (ho:OkG ni (grp κ c.key (Fs ++ G))) (hl:∀ z ∈ Fs ++ G,Lf ni nn z) (hn:(Fs ++ G).length ≤ 1000):(withL L c).1 = 0:=by
 cases hlk:lookC L c.key with
 | none => exact (zqx1 h.r (zqg3 hlk)).1
 | some x =>
  obtain ⟨hx,hxk⟩:=zqde hlk;rw [(zqir h.r hx hxk).1];have h1:=h.c x hx;rw [hxk] at h1;rw [zxa7,zxa6 hk] at ho;refine zxcd h1 hc hxk ho (fun z hz => ?_) ?_
  ·rcases List.mem_append.1 hz with hz | hz
   ·exact hl z (List.mem_append_left _ (zxap.1 hz).1)
   ·exact hl z (List.mem_append_right _ hz)
  ·have:(grp κ c.key Fs).length ≤ Fs.length:=List.length_filter_le ..;rw [List.length_append] at hn ⊢;omega
theorem zxa5 {ni nn:Nat} {κ:Ce → Int} {r:Ce → Ce} {g:Ce → List Ce} {Inv:List Ce → List Ce → Prop} (hI:Stays r Inv):∀ (cs:List Ce) {L Fs:List Ce},RepL ni nn κ L Fs → Inv L cs → (∀ c ∈ cs,Rep ni nn (r c) (g c) ∧ CeW (r c) ∧ ∀ f ∈ g c,κ f = (r c).key) →
  (∀ q,OkG ni (grp κ q (Fs ++ cs.flatMap g))) → (∀ z ∈ Fs ++ cs.flatMap g,Lf ni nn z) → (Fs ++ cs.flatMap g).length ≤ 1000 → (foldC L (cs.map r)).1 = 0
 | [],L,Fs,h,_,_,_,_,_ => rfl
 | c :: cs,L,Fs,h,hi,hc,ho,hl,hN => by
  obtain ⟨c1,c2,c3⟩:=hc c (List.mem_cons_self ..);obtain ⟨i1,i2⟩:=hI L c cs hi;rw [List.flatMap_cons,← List.append_assoc] at ho hl hN;have hw:(withL L (r c)).1 = 0:=by
   refine zxcs h c1 c3 ((ho _).sub (nn:=nn) ((List.sublist_append_left _ _).filter _) fun z hz => hl z (List.mem_filter.1 hz).1) (fun z hz => hl z (List.mem_append_left _ hz)) ?_
   rw [List.length_append] at hN;omega
  rw [List.map_cons];unfold foldC;rw [if_pos hw];exact zxa5 hI cs (h.with i1 c1 c2 c3 hw) (i2 hw) (fun d hd => hc d (List.mem_cons_of_mem _ hd)) ho hl hN
theorem RepL.ok {ni nn:Nat} {κ:Ce → Int} {L Fs:List Ce} (h:RepL ni nn κ L Fs) (hw:∀ c ∈ L,CeW c) (q:Int):OkG ni (grp κ q Fs):=by
 by_cases e:∃ c ∈ L,c.key = q
 ·obtain ⟨c,hc,rfl⟩:=e;exact (h.c c hc).okG (hw c hc)
 ·rw [zxaz fun f hf e2 => e (by
   obtain ⟨c,hc,e3⟩:=h.a f hf;exact ⟨c,hc,e3.trans e2⟩)]
  intro k hk;rw [zxbj]
  decide
theorem zxa9 {p q:Ce → Bool} (hpq:∀ x,p x = true → q x = true → False):∀ l:List Ce,(l.filter fun x => p x || q x).Perm (l.filter p ++ l.filter q)
 | [] => List.Perm.nil
 | a :: l => by
  have ih:=zxa9 hpq l
  by_cases hp:p a = true
  ·have hq:q a = false:=by
    cases e:q a with
    | false => rfl
    | true => exact (hpq a hp e).elim
   rw [List.filter_cons_of_pos (by rw [hp]; rfl),List.filter_cons_of_pos hp,List.filter_cons_of_neg (by rw [hq]; decide),List.cons_append]
   exact ih.cons a
  ·have hp':p a = false:=eq_false_of_ne_true hp
   by_cases hq:q a = true
   ·rw [List.filter_cons_of_pos (by rw [hp',hq]; rfl),List.filter_cons_of_neg hp,List.filter_cons_of_pos hq]
    exact (ih.cons a).trans List.perm_middle.symm
   ·rw [List.filter_cons_of_neg (by rw [hp',eq_false_of_ne_true hq]; decide),List.filter_cons_of_neg hp,List.filter_cons_of_neg hq]
    exact ih
theorem zxay {κ:Ce → Int} (Fs:List Ce):∀ L:List Ce,risingC L → (L.flatMap fun c => grp κ c.key Fs).Perm (Fs.filter fun f => L.any fun c => decide (κ f = c.key))
 | [],_ => by simp
 | c :: L,h => by
  rw [List.flatMap_cons];have ih:=zxay (κ:=κ) Fs L (zqbn h);have e:(Fs.filter fun f => (c :: L).any fun c => decide (κ f = c.key)) = Fs.filter fun f => decide (κ f = c.key) || L.any fun c => decide (κ f = c.key):=by simp [List.any_cons]
  rw [e];refine (List.Perm.append_left _ ih).trans (zxa9 (fun x hp hq => ?_) Fs).symm
  obtain ⟨d,hd,e2⟩:=List.any_eq_true.1 hq;have h1:=of_decide_eq_true hp;have h2:=of_decide_eq_true e2;have:=zqaz h d hd;omega
theorem RepL.groups {ni nn:Nat} {κ:Ce → Int} {L Fs:List Ce} (h:RepL ni nn κ L Fs):(L.flatMap fun c => grp κ c.key Fs).Perm Fs:=by
 have h1:=zxay (κ:=κ) Fs L h.r;rw [List.filter_eq_self.2 fun f hf => by
  obtain ⟨c,hc,e⟩:=h.a f hf;exact List.any_eq_true.2 ⟨c,hc,decide_eq_true e.symm⟩] at h1
 exact h1
theorem zxcg:∀ {l m:List Int},l.Pairwise (fun a b => a < b) → m.Pairwise (fun a b => a < b) → (∀ x,x ∈ l ↔ x ∈ m) → l = m:=fun {l m} hl hm h => by
 have nl:l.Nodup:=hl.imp (S:=(· ≠ ·)) (fun {a b} h e => by omega)
 have nm:m.Nodup:=hm.imp (S:=(· ≠ ·)) (fun {a b} h e => by omega)
 have hp:l.Perm m:=(List.perm_ext_iff_of_nodup nl nm).2 h;exact hp.eq_of_pairwise (fun a b _ _ h1 h2 => absurd (Int.lt_trans h1 h2) (Int.lt_irrefl a)) hl hm
theorem RepL.keys {ni nn:Nat} {κ:Ce → Int} {L Fs:List Ce} (h:RepL ni nn κ L Fs) (q:Int):q ∈ L.map (fun c => c.key) ↔ ∃ f ∈ Fs,κ f = q:=by
 constructor
 ·intro hq;obtain ⟨c,hc,rfl⟩:=List.mem_map.1 hq;obtain ⟨f,hf⟩:=List.exists_mem_of_ne_nil _ (h.c c hc).ne;obtain ⟨h1,h2⟩:=zxap.1 hf;exact ⟨f,h1,h2⟩
 ·rintro ⟨f,hf,rfl⟩;obtain ⟨c,hc,e⟩:=h.a f hf;exact List.mem_map.2 ⟨c,hc,e⟩
theorem RepL.same {ni nn:Nat} {κ:Ce → Int} {L M Fs:List Ce} (h:RepL ni nn κ L Fs) (k:RepL ni nn κ M Fs):eqsC L M = true:=by
 have e:L.map (fun c => c.key) = M.map (fun c => c.key):=zxcg (List.pairwise_map.2 h.r) (List.pairwise_map.2 k.r) fun q => by rw [h.keys,k.keys]
 have hl:L.length = M.length:=by have:=congrArg List.length e; simpa using this
 unfold eqsC;rw [decide_eq_true hl,Bool.true_and,List.all_eq_true];intro i hi;have hi1:i < L.length:=by simpa using hi
 have hi2:i < M.length:=by omega
 have ek:L[i].key = M[i].key:=by
  have h1:(L.map (fun c => c.key))[i]? = (M.map (fun c => c.key))[i]?:=by rw [e]
  rw [List.getElem?_map,List.getElem?_map,List.getElem?_eq_getElem hi1,List.getElem?_eq_getElem hi2] at h1;simpa using h1
 rw [zqat hi1,zqat hi2];have h1:=h.c L[i] (List.getElem_mem hi1);have h2:=k.c M[i] (List.getElem_mem hi2);rw [← ek] at h2;exact h1.same h2 ek
theorem zxab {A:List Ce}:mergeC A [] = (0,A):=by
 cases A with
 | nil => rw [mergeC]
 | cons x A => rw [mergeC]; exact fun h => nomatch h
theorem zxa1:∀ (A:List Ce) (y:Ce) (B:List Ce),risingC A → risingC (y :: B) → mergeC A (y :: B) = if (withL A y).1 = 0 then mergeC (withL A y).2 B else ((withL A y).1,[])
 | [],y,B,_,hb => by
  rw [show withL [] y = (0,[y]) from rfl,if_pos rfl,show mergeC [] (y :: B) = (0,y :: B) by rw [mergeC]]
  cases B with
  | nil => exact zxab.symm
  | cons z B =>
   have:=zqaz hb z (List.mem_cons_self ..);rw [zxaf this];rw [show mergeC [] (z :: B) = (0,z :: B) by rw [mergeC]]
   rfl
 | x :: A,y,B,ha,hb => by
  have hxA:=zqaz ha
  by_cases h1:x.key < y.key
  ·have ih:=zxa1 A y B (zqbn ha) hb;rw [zxaf h1,ih,withL,if_pos h1]
   by_cases e:(withL A y).1 = 0
   ·rw [if_pos e,if_pos e,if_pos rfl];cases B with
    | nil => rw [zxab,zxab]; rfl
    | cons z B =>
     have:=zqaz hb z (List.mem_cons_self ..);exact (zxaf (by omega)).symm
   ·rw [if_neg e,if_neg e,if_neg e];unfold consE;rw [if_neg e]
  ·by_cases h2:y.key < x.key
   ·rw [zxbh h2,show withL (x :: A) y = (0,y :: x :: A) by rw [withL,if_neg h1,if_neg (show ¬ x.key = y.key by omega)],if_pos rfl]
    cases B with
    | nil => rw [zxab,zxab]; rfl
    | cons z B =>
     have:=zqaz hb z (List.mem_cons_self ..);exact (zxaf (by omega)).symm
   ·have h3:x.key = y.key:=by omega
    rw [withL,if_neg h1,if_pos h3]
    by_cases e:errJ x y = 0
    ·rw [zxbg h3 e,if_pos e,if_pos rfl];cases B with
     | nil => rw [zxab,zxab]; rfl
     | cons z B =>
      have:=zqaz hb z (List.mem_cons_self ..);exact (zxaf (by rw [zqdd e]; omega)).symm
    ·rw [zxbi h3 e,if_neg e,if_neg e]
theorem zxa0:∀ (B A:List Ce),risingC A → risingC B → mergeC A B = foldC A B
 | [],A,_,_ => by rw [zxab]; rfl
 | y :: B,A,ha,hb => by
  rw [zxa1 A y B ha hb];unfold foldC
  by_cases e:(withL A y).1 = 0
  ·rw [if_pos e,if_pos e];exact zxa0 B _ (zxah ha e) (zqbn hb)
  ·rw [if_neg e,if_neg e]
theorem zxcm (x:Nat):flagN x < 32:=by
 unfold flagN
 split
 ·decide
 ·split
  ·split <;> decide
  ·split
   ·split <;> decide
   ·decide
theorem zxch {S:Sc} {m:Int} {f:Fa} (hf:FaWf f) (h:oneE S m f = 0):rightC S m (celC S m f) = true ∧ Sv 1 (celC S m f) ∧ Lf S.is.length S.ns.length (celC S m f):=by
 have ho:=zxbm (S:=S) (m:=m) hf;have hr:=ho.right hf h;have hv:=ho.sv hf h;refine ⟨hr,hv,?_⟩;have hp:=zxbn hr hv.1;refine ⟨hp.li,hp.ln,ho.cnt,fun k hk => ?_,fun k hk => ?_,fun k hk => by have:=(zxb5 hf h).2.2 k (by rw [hp.li]; exact hk); omega⟩
 ·have h1:=ho.is k (by rw [← ho.li,hp.li]; exact hk)
  rw [h1.sum,h1.abs];omega
 ·have hk2:k < f.ns.length:=by rw [← ho.ln,hp.ln]; exact hk
  have h1:=ho.ns k hk2;have e:=zqyf (zqxf (hp.bt k hk) (hp.er k hk)) h1.sum (zqea _) (zxcm _);rw [e.2];exact zqkx _ (zqd4 (P:=W64) hf.n hk2)
theorem zxbb {S:Sc} {m:Int}:∀ (l:List Fa) (acc:List Ce),(foldF S m acc l).1 = 0 → ∀ f ∈ l,oneE S m f = 0
 | [],acc,_ => fun f hf => nomatch hf
 | f :: l,acc,h => by
  unfold foldF at h
  by_cases h0:oneE S m f = 0
  ·rw [if_pos h0] at h
   by_cases h1:(withL acc (celC S m f)).1 = 0
   ·rw [if_pos h1] at h;intro g hg;rcases List.mem_cons.1 hg with rfl | hg
    ·exact h0
    ·exact zxbb l _ h g hg
   ·rw [if_neg h1] at h; exact absurd h h1
  ·rw [if_neg h0] at h; exact absurd h h0
theorem zxar {S:Sc} {m:Int}:∀ (l:List Fa) (acc:List Ce),(∀ f ∈ l,oneE S m f = 0) → foldF S m acc l = foldC acc (l.map (celC S m))
 | [],acc,_ => rfl
 | f :: l,acc,h => by
  unfold foldF;rw [List.map_cons];unfold foldC;rw [if_pos (h f (List.mem_cons_self ..))]
  by_cases h1:(withL acc (celC S m f)).1 = 0
  ·rw [if_pos h1,if_pos h1];exact zxar l _ fun g hg => h g (List.mem_cons_of_mem _ hg)
  ·rw [if_neg h1,if_neg h1]
structure FoldOk (S:Sc) (m:Int) (l:List Fa):Prop where
 ck:checkL S = 0
 ms:m ≤ fullL S.ds
 le:l.length ≤ 200
 on:∀ f ∈ l,oneE S m f = 0
 fw:∀ f ∈ l,FaWf f
theorem zxax {S:Sc} {m:Int} {l:List Fa} (hf:∀ f ∈ l,FaWf f) (h:(foldE S m l).1 = 0):FoldOk S m l:=by
 unfold foldE at h
 by_cases h1:checkL S = 0
 ·rw [if_pos h1] at h
  by_cases h2:m ≤ fullL S.ds
  ·rw [if_pos h2] at h
   by_cases h3:l.length ≤ 200
   ·rw [if_pos h3] at h;exact ⟨h1,h2,h3,zxbb l _ h,hf⟩
   ·rw [if_neg h3] at h; cases h
  ·rw [if_neg h2] at h; cases h
 ·rw [if_neg h1] at h; cases h
theorem FoldOk.is {S:Sc} {m:Int} {l:List Fa} (h:FoldOk S m l):foldE S m l = foldC [] ((l.map (celC S m)).map id):=by
 unfold foldE;rw [if_pos h.ck,if_pos h.ms,if_pos h.le,zxar l _ h.on,List.map_id]
theorem FoldOk.sub {S:Sc} {m:Int} {l k:List Fa} (h:FoldOk S m l) (hk:∀ f ∈ k,f ∈ l) (hn:k.length ≤ l.length):FoldOk S m k :=
 ⟨h.ck,h.ms,Nat.le_trans hn h.le,fun f hf => h.on f (hk f hf),fun f hf => h.fw f (hk f hf)⟩
theorem FoldOk.leaf {S:Sc} {m:Int} {l:List Fa} (h:FoldOk S m l):∀ c ∈ l.map (celC S m),rightC S m c = true ∧ Sv 1 c ∧ Lf S.is.length S.ns.length c:=fun c hc => by
 obtain ⟨f,hf,rfl⟩:=List.mem_map.1 hc;exact zxch (h.fw f hf) (h.on f hf)
theorem singles (l:List Ce):l.flatMap (fun c => [c]) = l:=by
 induction l with
 | nil => rfl
 | cons a l ih => rw [List.flatMap_cons,ih]; rfl
theorem FoldOk.groups {S:Sc} {m:Int} {l:List Fa} (h:FoldOk S m l):∀ c ∈ l.map (celC S m),Rep S.is.length S.ns.length (id c) [c] ∧ CeW (id c) ∧ ∀ f ∈ [c],f.key = (id c).key:=fun c hc => by
 obtain ⟨h1,h2,-⟩:=h.leaf c hc;exact ⟨zxbn h1 h2.1,h2.1,fun f hf => by rw [List.mem_singleton.1 hf]; rfl⟩
theorem FoldOk.inv {S:Sc} {m:Int} {l:List Fa} (h:FoldOk S m l):InvS id [] (l.map (celC S m)) :=
 ⟨1,Nat.le_refl _,by rw [List.length_map]; have:=h.le; omega,(fun x hx => nomatch hx),fun c hc => (h.leaf c hc).2.1⟩
theorem FoldOk.rep {S:Sc} {m:Int} {l:List Fa} (h:FoldOk S m l) (he:(foldE S m l).1 = 0):RepL S.is.length S.ns.length (fun c => c.key) (foldE S m l).2 (l.map (celC S m)):=by
 rw [h.is] at he ⊢;have:=(RepL.fold (invS id) (g:=fun c => [c]) (l.map (celC S m)) (RepL.nil S.is.length S.ns.length fun c => c.key) h.inv h.groups he).1
 rw [List.nil_append,singles] at this;exact this
theorem FoldOk.part {S:Sc} {m:Int} {l k:List Fa} (h:FoldOk S m l) (he:(foldE S m l).1 = 0) (hk:k.Sublist l):FoldOk S m k ∧ (foldE S m k).1 = 0:=by
 have h2:=h.sub (fun f hf => hk.subset hf) hk.length_le
 refine ⟨h2,?_⟩;have hr:=h.rep he;have hw:∀ c ∈ (foldE S m l).2,CeW c:=zxan h.fw
 rw [h2.is];have hsub:(k.map (celC S m)).Sublist (l.map (celC S m)):=hk.map _;refine zxa5 (invS id) (g:=fun c => [c]) (k.map (celC S m)) (RepL.nil S.is.length S.ns.length fun c => c.key) h2.inv h2.groups (fun q => ?_) (fun z hz => ?_) ?_
 ·rw [List.nil_append,singles];exact (hr.ok hw q).sub (nn:=S.ns.length) (hsub.filter _) fun z hz => (h.leaf z (List.mem_filter.1 hz).1).2.2
 ·rw [List.nil_append,singles] at hz;exact (h2.leaf z hz).2.2
 ·rw [List.nil_append,singles,List.length_map];have:=h2.le;omega
theorem zxat {S:Sc} {m:Int} {l a b:List Fa} (hf:∀ f ∈ l,FaWf f) (he:(foldE S m l).1 = 0) (ha:a.Sublist l) (hb:b.Sublist l) (hp:(a ++ b).Perm l) :
  (foldE S m a).1 = 0 ∧ (foldE S m b).1 = 0 ∧ (mergeE (foldE S m a).2 (foldE S m b).2).1 = 0 ∧ eqsC (foldE S m l).2 (mergeE (foldE S m a).2 (foldE S m b).2).2 = true ∧ LsW (mergeE (foldE S m a).2 (foldE S m b).2).2:=by
 have h:=zxax hf he;obtain ⟨ka,ea⟩:=h.part he ha;obtain ⟨kb,eb⟩:=h.part he hb;have ra:=ka.rep ea;have rb:=kb.rep eb;have sa:=(zxad ka.fw ea).2;have sb:=(zxad kb.fw eb).2;have hr:=h.rep he;have hperm:(a.map (celC S m) ++ b.map (celC S m)).Perm (l.map (celC S m)):=by
  rw [← List.map_append];exact hp.map _
 have hm:mergeE (foldE S m a).2 (foldE S m b).2 = foldC (foldE S m a).2 (((foldE S m b).2).map id):=by
  unfold mergeE;rw [if_pos ⟨zxak.2 ra.r,zxak.2 rb.r⟩,zxa0 _ _ ra.r rb.r,List.map_id]
 have hi:InvM (foldE S m a).2 (foldE S m b).2:=⟨ra.r,rb.r,fun x hx => ⟨(sa x hx).1,fun _ => (sa x hx).2.1.c⟩,fun c hc => ⟨(sb c hc).1,(sb c hc).2.1.c⟩⟩
 have hg:∀ c ∈ (foldE S m b).2,Rep S.is.length S.ns.length (id c) (grp (fun c => c.key) c.key (b.map (celC S m))) ∧ CeW (id c) ∧ ∀ f ∈ grp (fun c => c.key) c.key (b.map (celC S m)),f.key = (id c).key:=fun c hc => ⟨rb.c c hc,(sb c hc).1,fun f hf => (zxap.1 hf).2⟩
 have hpg:(a.map (celC S m) ++ (foldE S m b).2.flatMap fun c => grp (fun c => c.key) c.key (b.map (celC S m))).Perm (l.map (celC S m)):=(List.Perm.append_left _ rb.groups).trans hperm
 have hok:(mergeE (foldE S m a).2 (foldE S m b).2).1 = 0:=by
  rw [hm];refine zxa5 invM (foldE S m b).2 ra hi hg (fun q => ?_) (fun z hz => ?_) ?_
  ·exact (hr.ok (zxan hf) q).perm (hpg.filter _).symm
  ·exact (h.leaf z (hpg.mem_iff.1 hz)).2.2
  ·rw [hpg.length_eq,List.length_map];have:=h.le;omega
 rw [hm] at hok;have hfin:=RepL.fold invM (foldE S m b).2 ra hi hg hok;rw [hm];exact ⟨ea,eb,hok,hr.same (hfin.1.perm hpg),fun c hc => (hfin.2.2.2.1 c hc).1⟩
theorem zxcw {ni nn:Nat} {G:List Ce} (hl:∀ x ∈ G,Lf ni nn x) {k:Nat} (hk:k < ni):sumZ (fun x => wv (wg x.is k).sq) G ≤ G.length * 85070591730234615865843651857942052864:=by
 induction G with
 | nil => simp [sumZ]
 | cons a G ih =>
  rw [zxaa,List.length_cons];have h1:=ih fun x hx => hl x (List.mem_cons_of_mem _ hx)
  have h2:=(hl a (List.mem_cons_self ..)).sq k hk;omega
theorem zxcl {ni nn:Nat} {c:Ce} {G:List Ce} (h:Rep ni nn c G) (hw:CeW c) (hl:∀ z ∈ G,Lf ni nn z) (hn:G.length ≤ 1000) (h1:ni ≤ 10) (h2:nn ≤ 10):Sv 1 c ∧ ∀ k,k < c.is.length → (wg c.is k).sq.length ≤ 5:=by
 have hv:∀ k,k < ni → wv (wg c.is k).sq ≤ 85070591730234615865843651857942052864000:=fun k hk => by
  have:=zxcw hl hk;rw [h.sq k hk];omega
 have h5:∀ k,k < ni → (wg c.is k).sq.length ≤ 5:=fun k hk => (h.ty k hk).wlen (h.wd k hk) (n:=5) (Int.lt_of_le_of_lt (hv k hk) (by decide))
 refine ⟨⟨hw,⟨by rw [h.li]; exact h1,by rw [h.ln]; exact h2,fun k hk => ?_⟩,fun k hk => ?_⟩,fun k hk => h5 k (by rw [← h.li]; exact hk)⟩
 ·have hk2:k < ni:=by rw [← h.li]; exact hk
  have:=h5 k hk2;exact ⟨by omega,Int.le_trans (hv k hk2) (by decide)⟩
 ·have hk2:k < nn:=by rw [← h.ln]; exact hk
  have:=(zqxf (h.bt k hk2) (h.er k hk2)).len;omega
theorem zxbe {g:Ce → List Ce}:∀ L:List Ce,(∀ c ∈ L,g c ≠ []) → L.length ≤ (L.flatMap g).length
 | [],_ => Nat.zero_le _
 | c :: L,h => by
  rw [List.flatMap_cons,List.length_append,List.length_cons];have h1:=zxbe L fun d hd => h d (List.mem_cons_of_mem _ hd)
  have h2:=List.length_pos_iff.2 (h c (List.mem_cons_self ..));omega
theorem RepL.len {ni nn:Nat} {κ:Ce → Int} {L Fs:List Ce} (h:RepL ni nn κ L Fs):L.length ≤ Fs.length:=by
 rw [← h.groups.length_eq];exact zxbe L fun c hc => (h.c c hc).ne
structure Ctx (S:Sc) (C:List Ce):Prop where
 ck:checkL S = 0
 lf:∀ z ∈ C,Lf S.is.length S.ns.length z
 le:C.length ≤ 200
structure FacL (S:Sc) (κ:Ce → Int) (L C:List Ce):Prop where
 rp:RepL S.is.length S.ns.length κ L C
 w:∀ c ∈ L,CeW c
theorem FacL.sv {S:Sc} {κ:Ce → Int} {L C:List Ce} (h:FacL S κ L C) (x:Ctx S C):∀ c ∈ L,Sv 1 c ∧ ∀ k,k < c.is.length → (wg c.is k).sq.length ≤ 5:=fun c hc => by
 have h3:=zqcc.1 (zqga x.ck).1;refine zxcl (h.rp.c c hc) (h.w c hc) (fun z hz => x.lf z (zxap.1 hz).1) ?_ (by omega) (by omega)
 have:(grp κ c.key C).length ≤ C.length:=List.length_filter_le ..;have:=x.le;omega
theorem zxcf {S:Sc} {m:Int} {l:List Fa} (hf:∀ f ∈ l,FaWf f) (he:(foldE S m l).1 = 0):Ctx S (l.map (celC S m)) ∧ FacL S (fun c => c.key) (foldE S m l).2 (l.map (celC S m)) ∧ rightL S m (foldE S m l).2 = true:=by
 have h:=zxax hf he;exact ⟨⟨h.ck,fun z hz => (h.leaf z hz).2.2,by rw [List.length_map]; exact h.le⟩,⟨h.rep he,zxan hf⟩,(zxad hf he).1⟩
theorem Tryz.infoFact15:(Tryz.prog.info? 73).map (fun i => (i.zero,i.size,i.bytes)) = some (some (.agg #[.slice none 0 0,.slice none 0 0,.slice none 0 0]),3,72):=by kernel_rfl
theorem zxb3:Tryz.prog.elem 47 = 73:=by kernel_rfl
theorem size3:∃ i,Tryz.prog.info? 73 = some i ∧ i.size = 3:=by
 obtain ⟨i0,hi,hz0,hz1,hz2⟩:=info_parts Tryz.infoFact15;exact ⟨i0,hi,hz1⟩
theorem zxcb {w:World} {a:Option Addr} {cap l k:Nat} (hk:k ≤ cap) (hs:∃ i,Tryz.prog.info? 73 = some i ∧ i.size = 3):(Instr.slice 47 (.slice a l cap) none (some (.int .i64 k)) none).run Tryz.prog w = .ok (.slice (if cap = 0 then a else a.map (·.add (0 * 3))) k cap) w:=by
 obtain ⟨i,hi,hs⟩:=hs;rw [run_slice_h w _ a l cap Tryz.underlying47 .i64 (k:Int) (by omega) (by omega),zxb3]
 simp [sizeOf,typeInfo,hi,hs,sliced,Result.andThen]
theorem zxca {w:World} {a:Option Addr} {cap l k:Nat} (hk:k ≤ l) (hs:∃ i,Tryz.prog.info? 73 = some i ∧ i.size = 3):(Instr.slice 47 (.slice a l cap) (some (.int .i64 k)) none none).run Tryz.prog w = .ok (.slice (if cap = k then a else a.map (·.add (k * 3))) (l - k) (cap - k)) w:=by
 obtain ⟨i,hi,hs⟩:=hs;simp [Instr.slice,run_underlying Tryz.underlying47,Instr.sliceBounds,Instr.sliceBound,asIntOf,sizeOf,typeInfo,hi,hs,hk,go_sem]
theorem zxbs {w:World} {a:Option Addr} {len cap:Nat} {l:List Fa} {k:Nat} (h:Facts w (.slice a len cap) l) (hk:k ≤ l.length) :
  ∃ p c,(∀ w',(Instr.slice 47 (.slice a len cap) none (some (.int .i64 (k:Int))) none).run Tryz.prog w' = .ok (.slice p k c) w') ∧ Facts w (.slice p k c) (l.take k):=by
 obtain ⟨a',cap',e,hc,hm,ha⟩:=h;simp only [Value.slice.injEq] at e;obtain ⟨rfl,rfl,rfl⟩:=e;refine ⟨if cap = 0 then a else a.map (·.add (0 * 3)),cap,fun w' => zxcb (by omega) size3,?_⟩
 have e:(if cap = 0 then a else a.map (·.add (0 * 3))) = a:=by
  split
  ·rfl
  ·cases a <;> simp [Addr.add]
 have hlen:(l.take k).length = k:=by rw [List.length_take]; omega
 rw [e];refine ⟨a,cap,by rw [hlen],by omega,by omega,?_⟩
 rcases ha with h0 | ⟨b,off,rfl,hb,hcell⟩
 ·left; rw [h0]; simp
 ·right;refine ⟨b,off,rfl,hb,fun i hi => ?_⟩
  obtain ⟨C,I,N,h1,h2⟩:=hcell i (by omega)
  exact ⟨C,I,N,h1,by rw [List.getElem_take]; exact h2⟩
theorem zxbr {w:World} {a:Option Addr} {len cap:Nat} {l:List Fa} {k:Nat} (h:Facts w (.slice a len cap) l) (hk:k ≤ l.length) :
  ∃ p c,(∀ w',(Instr.slice 47 (.slice a len cap) (some (.int .i64 (k:Int))) none none).run Tryz.prog w' = .ok (.slice p (len - k) c) w') ∧ Facts w (.slice p (len - k) c) (l.drop k):=by
 obtain ⟨a',cap',e,hc,hm,ha⟩:=h;simp only [Value.slice.injEq] at e;obtain ⟨rfl,rfl,rfl⟩:=e;refine ⟨if cap = k then a else a.map (·.add (k * 3)),cap - k,fun w' => zxca hk size3,?_⟩
 refine ⟨_,_,by rw [List.length_drop],by rw [List.length_drop]; omega,by rw [List.length_drop]; omega,?_⟩
 rcases ha with h0 | ⟨b,off,rfl,hb,hcell⟩
 ·left; rw [h0]; simp
 ·by_cases hd:l.length = k
  ·left; rw [← hd]; simp
  ·right;refine ⟨b,off + k * 3,?_,hb,fun i hi => ?_⟩
   ·rw [if_neg (by omega)]
    by_cases hk0:k = 0
    ·subst hk0; simp [Addr.add]
    ·simp [Addr.add];omega
   ·rw [List.length_drop] at hi;obtain ⟨C,I,N,⟨h1,h2,h3⟩,h4⟩:=hcell (k + i) (by omega)
    have e:off + (k + i) * 3 = off + k * 3 + i * 3:=by omega
    rw [e] at h1 h2 h3;exact ⟨C,I,N,⟨h1,h2,h3⟩,by rw [List.getElem_drop]; exact h4⟩
theorem zxb2 {S:Sc} {m:Int} {l:List Fa} (k:Nat) (hf:∀ f ∈ l,FaWf f) (he:(foldE S m l).1 = 0) :
  ((foldE S m (l.take k)).1 = 0 ∧ (foldE S m (l.drop k)).1 = 0 ∧ (mergeE (foldE S m (l.take k)).2 (foldE S m (l.drop k)).2).1 = 0 ∧ eqsC (foldE S m l).2 (mergeE (foldE S m (l.take k)).2 (foldE S m (l.drop k)).2).2 = true ∧ LsW (mergeE (foldE S m (l.take k)).2 (foldE S m (l.drop k)).2).2) ∧
  (mergeE (foldE S m (l.drop k)).2 (foldE S m (l.take k)).2).1 = 0 ∧ eqsC (foldE S m l).2 (mergeE (foldE S m (l.drop k)).2 (foldE S m (l.take k)).2).2 = true ∧ LsW (mergeE (foldE S m (l.drop k)).2 (foldE S m (l.take k)).2).2:=by
 have h1:=zxat hf he (List.take_sublist k l) (List.drop_sublist k l) (by rw [List.take_append_drop])
 have h2:=zxat hf he (List.drop_sublist k l) (List.take_sublist k l) (by
  have:=List.perm_append_comm (l₁:=l.drop k) (l₂:=l.take k);rw [List.take_append_drop] at this;exact this)
 exact ⟨h1,h2.2.2⟩
theorem zxao {S:Sc} {m:Int} {l:List Fa} (hf:∀ f ∈ l,FaWf f):∀ c ∈ (foldE S m l).2,Sm c:=by
 by_cases h:(foldE S m l).1 = 0
 ·exact fun c hc => ((zxad hf h).2 c hc).sm
 ·rw [zxag h];exact fun c hc => nomatch hc
theorem zxaj {S:Sc} {m:Int} {l:List Fa} (hf:∀ f ∈ l,FaWf f):(foldE S m l).2.length ≤ 200:=by
 by_cases h:(foldE S m l).1 = 0
 ·obtain ⟨x,F,-⟩:=zxcf hf h;exact Nat.le_trans F.rp.len x.le
 ·rw [zxag h];exact Nat.zero_le _
end Go.Proofs.YtmnbljijnbhghaaGreatDoor
