/- Contracts that the law leans on: Facc Keya Keyd Keyj Faci Aggw Cele Celj Cemb Cemi Cemk Ceml Cemm Cemn Cemw. -/
import Derived.Lib.AppendZeros
import Derived.Deep.RegionHeld3
import Derived.WalkKit
import Derived.Maps.OwnSet
import Derived.Lib.Hide
import Derived.Below
import Derived.OpenShut
import Derived.BigQuiet
import Derived.Deep.QuietTactic
import Derived.Deep.Draws
import Derived.Deep.CutBlock
import Derived.WalkSmall
import Derived.SliceStrings
import Derived.Laws.FloatArith
import Derived.WalkLawsBesides
import Derived.Laws.Externs
import Derived.Laws.BitsAllLaws
import Derived.Shelf.Spec.TrailingZeros
import Derived.Laws.Bits64b
import Derived.Lib.BitFns
import Derived.Lib.Small
import Derived.Lib.Strings
import Derived.Lib.Slices
import Derived.Lib.Walk
import Derived.WalkSpells
import Derived.OwnWalk
import Derived.Laws.Bits64
import Derived.Deep.DeepCutAuto
import Derived.Deep.RegionLawGrows
import Derived.Lib.ItoaNum
import Derived.Deep.AppendLies
import Derived.Lib.Bytealg
import Derived.Laws.BytesArg
import Derived.Deep.Slices
import Derived.Deep.Fields
import Derived.ChangeSame
import Derived.ChangeSlices
import Derived.Lib.SmallJoins
import Derived.Deep.LoopGhost
import Derived.Deep.RegionLaw
import Derived.Outline
import Derived.Deep.RegionWith
import Derived.RegionTactic
import Derived.ChangeAlike
import Derived.Laws.IdiomStrings
import Derived.ProofKit
import Derived.LaidMore
import Derived.Stop.Joined
import Derived.Lib.LaidTab
import Derived.Deep.RegionHeld
import Derived.Deep.DrawnRows
import Derived.Deep.CutRange
import Derived.Lib.ConvBytes
import Derived.Laws.CopyRow
import Derived.Laws.IdiomCopy
import Derived.Laws.OwnMore
import Derived.Laws.MakeOwn
import Derived.Maps.Ext
import Derived.Maps.RangeWalk
import Derived.Sort.OwnSorted
import Derived.Shelf.SlSortCmp.WholeK
import Derived.Shelf.SlSortCmp.NoneTotal
import Derived.Test.YtmnbljijnbhghaaGreatDoorRows
import Derived.Test.YtmnbljijnbhghaaGreatDoorProg
import Derived.Test.YtmnbljijnbhghaaGreatDoorPt01
import Derived.Test.YtmnbljijnbhghaaGreatDoorPt02
import Derived.Test.YtmnbljijnbhghaaGreatDoorPt03
import Derived.Test.YtmnbljijnbhghaaGreatDoorPt04
import Derived.Test.YtmnbljijnbhghaaGreatDoorPt05
import Derived.Test.YtmnbljijnbhghaaGreatDoorPt06
import Derived.Test.YtmnbljijnbhghaaGreatDoorPt07
import Derived.Test.YtmnbljijnbhghaaGreatDoorPt08
import Derived.Test.YtmnbljijnbhghaaGreatDoorPt09
import Derived.Test.YtmnbljijnbhghaaGreatDoorPt10
import Derived.Test.YtmnbljijnbhghaaGreatDoorPt11
import Derived.Test.YtmnbljijnbhghaaGreatDoorPt12
import Derived.Test.YtmnbljijnbhghaaGreatDoorPt13
import Derived.Test.YtmnbljijnbhghaaGreatDoorPt14
import Derived.Test.YtmnbljijnbhghaaGreatDoorPt15
import Derived.Test.YtmnbljijnbhghaaGreatDoorPt16
import Derived.Test.YtmnbljijnbhghaaGreatDoorPt17
import Derived.Test.YtmnbljijnbhghaaGreatDoorPt18
import Derived.Test.YtmnbljijnbhghaaGreatDoorPt19
import Derived.Test.YtmnbljijnbhghaaGreatDoorPt20
import Derived.Test.YtmnbljijnbhghaaGreatDoorPt21
import Derived.Test.YtmnbljijnbhghaaGreatDoorPt22
import Derived.Test.YtmnbljijnbhghaaGreatDoorPt23
import Derived.Test.YtmnbljijnbhghaaGreatDoorPt24
import Derived.Test.YtmnbljijnbhghaaGreatDoorPt25
import Derived.Test.YtmnbljijnbhghaaGreatDoorPt26
import Derived.Test.YtmnbljijnbhghaaGreatDoorPt27
import Derived.Test.YtmnbljijnbhghaaGreatDoorPt28
import Derived.Test.YtmnbljijnbhghaaGreatDoorPt29
import Derived.Test.YtmnbljijnbhghaaGreatDoorPt30
import Derived.Test.YtmnbljijnbhghaaGreatDoorPt31
import Derived.Test.YtmnbljijnbhghaaGreatDoorPt32
import Derived.Test.YtmnbljijnbhghaaGreatDoorPt33
namespace Go.Proofs.YtmnbljijnbhghaaGreatDoor
set_option maxRecDepth 100000
open Go.RowKit
set_option linter.unusedVariables false
set_option maxRecDepth 100000
open Go.RowKit
set_option linter.unusedVariables false
set_option maxRecDepth 100000
open Go.RowKit
set_option linter.unusedVariables false
set_option maxRecDepth 100000
open Go.RowKit Go.ChangeShapes Go.WideShapes Go.Deep
set_option linter.unusedVariables false
theorem zxa9 {H:Type} {enc:TypeId × Value → H} {w:World} {base:Nat} {spare:Nat → Bool} {held:Bool} {fuel:Nat} {v:Value} {x:DataW H × List MemPlace} {T E:TypeId} (hT:Tryz.prog.underlying T = some (.slice E)) (hE:Tryz.prog.underlying E = some (.int .i64)) (h1:Tryz.prog.cellsOf E = 1)
  (h:DataW.trod enc Tryz.prog w base spare held fuel T [v] = some x) :
  ∃ vs,Ints .i64 w v vs ∧ (∀ d ∈ vs,-9223372036854775808 ≤ d ∧ d ≤ 9223372036854775807) ∧ vs.length ≤ 9223372036854775807:=by
 rcases open_ints hT hE h1 h with ⟨hcs,_⟩ | ⟨x,l,c,zs,hcs,_,hl,hm,hz,_,hcell,hwz⟩
 ·obtain rfl:v = .slice none 0 0:=by simpa using hcs
  exact ⟨[],⟨none,0,rfl,by simp,.inl rfl⟩,(fun _ h => by cases h),by simp⟩
 ·obtain rfl:v = .slice (some x) l c:=by simpa using hcs
  have hlz:l ≤ zs.length:=by rw [hz]; split <;> omega
  have ht:(zs.take l).length = l:=by rw [List.length_take]; omega
  refine ⟨zs.take l,⟨some x,c,by rw [ht],by omega,?_⟩,fun n hn => ?_,by rw [ht]; unfold maxLen at hm; omega⟩
  ·by_cases h0:l = 0
   ·subst h0; exact .inl (by simp)
   ·refine .inr ?_;obtain ⟨b,off,spot⟩:=x;have hc:=hcell 0 (by omega)
    have hspot:spot = none:=by simpa [Addr.add] using World.cell?_spot hc
    subst hspot;refine ⟨b,off,rfl,World.block_lt_of_cell? w _ hc,fun i hi => ?_⟩
    rw [ht] at hi;have e:(zs.take l).getD i 0 = zs.getD i 0:=by simp [List.getD,hi]
    rw [e];have hh:=hcell i (by omega)
    by_cases h0:i = 0
    ·subst h0; simpa [Addr.add] using hh
    ·simpa [Addr.add,h0] using hh
  ·have:=hwz n (List.mem_of_mem_take hn);simp [Lit.wf,IntKind.min,IntKind.max,IntKind.signed,IntKind.bits] at this;omega
theorem zxcj {H:Type} {enc:TypeId × Value → H} {w:World} {base:Nat} {spare:Nat → Bool} {held:Bool} {fuel:Nat} {v:Value} {x:DataW H × List MemPlace} {T E:TypeId} (hT:Tryz.prog.underlying T = some (.slice E)) (hE:Tryz.prog.underlying E = some (.float .f64)) (hc1:Tryz.prog.cellsOf E = 1)
  (h:DataW.trod enc Tryz.prog w base spare held fuel T [v] = some x):∃ xs,Fls w v xs ∧ (∀ x ∈ xs,W64 x) ∧ xs.length ≤ 9223372036854775807:=by
 rcases DataW.trod_slice hT h with ⟨hv,-⟩ | ⟨a,len,cap,elems,rest,n,_,hv,-,hb,hl,hm,hlen,hel,-,-⟩
 ·obtain rfl:v = .slice none 0 0:=by simpa using hv
  exact ⟨[],⟨none,0,rfl,by simp,.inl rfl⟩,(fun _ h => by cases h),by simp⟩
 obtain rfl:v = .slice (some a) len cap:=by simpa using hv
 have each:∀ i,∃ m,i < len → w.cell? (a.add i) = some (.float .f64 m) ∧ W64 m:=by
  intro i
  by_cases hi:i < len
  ·have h1:=hel i hi;rw [List.getElem?_eq_getElem (by omega),hc1,Nat.mul_one,Option.bind_eq_some_iff] at h1
   obtain ⟨cs',hcs,hy'⟩:=h1;obtain ⟨m,rfl,hw⟩:=zqnw hE hy';exact ⟨m,fun _ => ⟨cell_of_cells?_one hcs,by simpa [Lit.wf,W64] using hw⟩⟩
  ·exact ⟨0,fun h => absurd h hi⟩
 obtain ⟨q,hq⟩:=Classical.axiomOfChoice each;have hle:((List.range len).map q).length = len:=by simp
 have hget:∀ k,k < len → ((List.range len).map q).getD k 0 = q k:=fun k hk => by simp [List.getD,hk]
 refine ⟨(List.range len).map q,⟨some a,cap,by rw [hle],by rw [hle]; exact hl,?_⟩,fun d hd => ?_,by rw [hle]; unfold maxLen at hm; omega⟩
 ·by_cases h0:len = 0
  ·exact .inl (by subst h0; rfl)
  ·refine .inr ?_;obtain ⟨b,off,spot⟩:=a;have hc0:=(hq 0 (by omega)).1
   have hspot:spot = none:=by simpa [Addr.add] using World.cell?_spot hc0
   subst hspot;refine ⟨b,off,rfl,World.block_lt_of_cell? w _ hc0,fun i hi => ?_⟩
   rw [hle] at hi;rw [hget i hi];have hh:=(hq i hi).1
   by_cases h0:i = 0
   ·subst h0; simpa [Addr.add] using hh
   ·simpa [Addr.add,h0] using hh
 ·obtain ⟨k,hk,rfl⟩:=List.mem_map.1 hd;exact (hq k (by simpa using hk)).2
theorem zxbp {H:Type} {enc:TypeId × Value → H} {w:World} {base:Nat} {spare:Nat → Bool} {held:Bool} {fuel:Nat} {cs:List Value} {x:DataW H × List MemPlace} {T E0 E1 E2:TypeId} {g0 g1 g2:Field}
  (hT:Tryz.prog.underlying T = some (.struct #[g0,g1,g2])) (hc:Tryz.prog.cellsOf T = 3) (o0:g0.offset = 0) (o1:g1.offset = 1) (o2:g2.offset = 2)
  (h0:Tryz.prog.underlying g0.type = some (.slice E0)) (h1:Tryz.prog.underlying g1.type = some (.slice E1)) (h2:Tryz.prog.underlying g2.type = some (.slice E2))
  (c0':Tryz.prog.cellsOf g0.type = 1) (c1':Tryz.prog.cellsOf g1.type = 1) (c2':Tryz.prog.cellsOf g2.type = 1)
  (e0:Tryz.prog.underlying E0 = some (.int .i64)) (e1:Tryz.prog.underlying E1 = some (.int .i64)) (e2:Tryz.prog.underlying E2 = some (.float .f64))
  (d0:Tryz.prog.cellsOf E0 = 1) (d1:Tryz.prog.cellsOf E1 = 1) (d2:Tryz.prog.cellsOf E2 = 1)
  (h:DataW.trod enc Tryz.prog w base spare held fuel T cs = some x) :
  ∃ C I N f,cs = [C,I,N] ∧ Fact3 w C I N f ∧ FaWf f:=by
 obtain ⟨xs,n,-,hx,hlen,hxl,hf⟩:=DataW.trod_struct hT h;rw [hc] at hlen
 match cs,hlen with
 | [c0,c1,c2],_ =>
  match xs,hxl with
  | [y0,y1,y2],_ =>
   have q0:=hf 0 g0 rfl;have q1:=hf 1 g1 rfl;have q2:=hf 2 g2 rfl;rw [o0,c0'] at q0;rw [o1,c1'] at q1;rw [o2,c2'] at q2;obtain ⟨l0,k0,w0,m0⟩:=zxa9 h0 e0 d0 q0;obtain ⟨l1,k1,w1,m1⟩:=zxa9 h1 e1 d1 q1;obtain ⟨l2,k2,w2,m2⟩:=zxcj h2 e2 d2 q2;exact ⟨c0,c1,c2,⟨l0,l1,l2⟩,rfl,⟨k0,k1,k2⟩,⟨w0,w1,w2,m0,m1,m2⟩⟩
theorem zxbt {H:Type} {enc:TypeId × Value → H} {w:World} {base:Nat} {spare:Nat → Bool} {held:Bool} {v:Value} {d:DataW H} {p:List MemPlace} {T E:TypeId} (hT:Tryz.prog.underlying T = some (.slice E)) (hc3:Tryz.prog.cellsOf E = 3)
  (hr:∀ {fuel:Nat} {cs:List Value} {x:DataW H × List MemPlace},DataW.trod enc Tryz.prog w base spare held fuel E cs = some x → ∃ C I N f,cs = [C,I,N] ∧ Fact3 w C I N f ∧ FaWf f)
  (h:DataW.Trod enc Tryz.prog w base spare held T v d p) (hs:∃ a l c,v = .slice a l c):∃ l,Facts w v l ∧ ∀ f ∈ l,FaWf f:=by
 obtain ⟨fuel,h⟩:=h;obtain ⟨a0,l0,c0,rfl⟩:=hs;rcases open_slice hT h with ⟨hv,-⟩ | ⟨a,len,cap,m,nn,Dx,Pl,hv,-,hl,hcm,hmm,-,hi⟩
 ·simp [Value.cells] at hv;obtain ⟨rfl,rfl,rfl⟩:=hv;exact ⟨[],⟨none,0,rfl,by simp,by simp,.inl rfl⟩,fun _ h => by cases h⟩
 ·simp [Value.cells] at hv;obtain ⟨rfl,rfl,rfl⟩:=hv;have hlm:l0 ≤ m:=by rw [hmm]; split <;> omega
  have hq:∀ k,∃ f:Fa,k < l0 → ∃ C I N,(∀ j,j < 3 → w.cell? ((a.add (k * 3)).add j) = [C,I,N][j]?) ∧ Fact3 w C I N f ∧ FaWf f:=by
   intro k
   by_cases hk:k < l0
   ·obtain ⟨cs',hc,ht⟩:=hi k (by omega)
    obtain ⟨C,I,N,f,rfl,h3,hwf⟩:=hr ht;rw [hc3] at hc;obtain ⟨-,-,hat⟩:=World.cells?_some hc;exact ⟨f,fun _ => ⟨C,I,N,hat,h3,hwf⟩⟩
   ·exact ⟨⟨[],[],[]⟩,fun h => absurd h hk⟩
  obtain ⟨q,hq⟩:=Classical.axiomOfChoice hq;have hle:((List.range l0).map q).length = l0:=by simp
  have hget:∀ k (h:k < ((List.range l0).map q).length),((List.range l0).map q)[k] = q k:=fun k hk => by simp
  refine ⟨(List.range l0).map q,⟨some a,c0,by rw [hle],by rw [hle]; exact hl,by rw [hle]; unfold maxLen at hcm; omega,?_⟩,fun d hd => ?_⟩
  ·by_cases h0:l0 = 0
   ·exact .inl (by subst h0; rfl)
   ·refine .inr ?_;obtain ⟨b,off,spot⟩:=a;obtain ⟨C,I,N,hc,-⟩:=hq 0 (by omega)
    have hc:=hc 0 (by omega)
    have hspot:spot = none:=by simpa [Addr.add] using World.cell?_spot hc
    subst hspot;refine ⟨b,off,rfl,World.block_lt_of_cell? w _ hc,fun k hk => ?_⟩
    obtain ⟨C,I,N,hh,h3,-⟩:=hq k (by omega)
    have ha:(⟨b,off,none⟩:Addr).add (k * 3) = ⟨b,off + k * 3,none⟩:=by
     by_cases k0:k = 0
     ·subst k0; simp [Addr.add]
     ·have k6:¬ k * 3 = 0:=by omega
      simp only [Addr.add,if_neg k6]
    rw [ha] at hh;have h0:=hh 0 (by omega)
    have h1:=hh 1 (by omega)
    have h2:=hh 2 (by omega)
    simp only [Addr.add,if_true,Nat.one_ne_zero,if_false] at h0 h1 h2;rw [hget k hk];exact ⟨C,I,N,⟨h0,h1,by simpa using h2⟩,h3⟩
  ·obtain ⟨k,hk,rfl⟩:=List.mem_map.1 hd;obtain ⟨C,I,N,-,-,hwf⟩:=hq k (by simpa using hk)
   exact hwf
end Go.Proofs.YtmnbljijnbhghaaGreatDoor
namespace Go.Proofs.YtmnbljijnbhghaaGreatDoor
set_option maxRecDepth 100000
open Go.RowKit
set_option linter.unusedVariables false
theorem zxbm {d:Nat → Int} {a b c:Nat → Bool} {n:Nat} (hd:∀ k,k < n → 1 ≤ d k) (hb:∀ k,k < n → b k = true → a k = true) (hc:∀ k,k < n → c k = true → b k = true) (q:Int):downG d b c n (downG d a b n q) = downG d a c n q :=
 zqjb fun k hk hp => zq0c hd (zqz3 (zqkt hd q) hb) hk (hc k hk hp)
theorem zxb4 {ds:List (ByteArray × Int)} {c:Nat → Int} {m:Int} (h:sizB ds = true) (hc:InG (dz ds) c (bitG m) ds.length):0 ≤ keyG (dz ds) c (bitG m) ds.length ∧ keyG (dz ds) c (bitG m) ds.length < keysL ds m ds.length ∧ keysL ds m ds.length ≤ 1099511627776:=by
 have h1:=zqjc (zqdg h) hc;have h2:=zqcs m h ds.length (Nat.le_refl _);have h3:=zqc4 h ds.length (Nat.le_refl _);rw [← zqh8] at h1;omega
theorem zxa7 {a b:Int} (a0:0 ≤ a) (a1:a ≤ 4294967295) (b0:0 ≤ b) (b1:b ≤ 4294967295):0 ≤ bits .and .u32 a b ∧ bits .and .u32 a b ≤ 4294967295 ∧ ∀ k,bitG (bits .and .u32 a b) k = (bitG a k && bitG b k):=by
 rw [u32_and a b a0 (by omega) b0 (by omega)]
 have h:a.toNat &&& b.toNat < 2 ^ 32:=Nat.and_lt_two_pow _ (by omega)
 refine ⟨by omega,by omega,fun k => ?_⟩
 rw [zqge (by omega),zqge a0,zqge b0,Int.toNat_natCast,Nat.testBit_and]
end Go.Proofs.YtmnbljijnbhghaaGreatDoor
namespace Go.Proofs.YtmnbljijnbhghaaGreatDoor
set_option maxRecDepth 100000
open Go.RowKit Go.ChangeShapes Go.WideShapes Go.Deep
set_option linter.unusedVariables false
theorem zxbs {w:World} {r:Reach} {b0:Nat} {t e:TypeId} {n m:Nat} {v:Value} (hu:Tryz.prog.underlying t = some (.array n e)) (hm:Tryz.prog.cellsOf t = m) (hv:Value.okWide Tryz.prog w r b0 t v):∃ cs,v = .agg cs ∧ cs.size = m:=by
 unfold Value.okWide at hv;rw [hu] at hv;obtain ⟨cs,rfl,hsz,-⟩:=hv;exact ⟨cs,rfl,hsz.trans hm⟩
end Go.Proofs.YtmnbljijnbhghaaGreatDoor
namespace Go.Proofs.YtmnbljijnbhghaaGreatDoor
set_option maxRecDepth 100000
open Go.RowKit
set_option linter.unusedVariables false
set_option maxRecDepth 100000
open Go.RowKit
set_option linter.unusedVariables false
set_option maxRecDepth 100000
open Go.RowKit
set_option linter.unusedVariables false
def EitherB (e:Ending):Prop:=∃ b:Bool,e = .returned (.bool b)
set_option maxHeartbeats 4000000 in
theorem zxbn (w:World) (v:Value) (l:List Fa) (h:Facts w v l) :
  Calls Tryz.prog 21 #[v] w fun e w' => EitherB e ∧ w = w':=by
 obtain ⟨a,cap,rfl,h1,hmx,h3⟩:=h;have HC:=zh h3;clear h3;go_enter Tryz.func21,Tryz.ntmps21;go_wp2_with fail;go_loopw [3] (fun i wr => ∃ k:Nat,k ≤ l.length ∧ i = .int .i64 k ∧ Hid (w = wr)) (fun i _ => l.length - (intOf i).toNat)
 case atStart => exact ⟨0,Nat.zero_le _,rfl,zh rfl⟩
 case round =>
  obtain ⟨k,hk,rfl,HD⟩:=hrel;obtain rfl:=HD.out
  by_cases hlk:k < l.length
  ·have hlk':(k:Int) < (l.length:Int):=by omega
   rcases HC.out with h3 | ⟨b,off,rfl,hlt,hc⟩
   ·rw [h3] at hlk; simp at hlk
   obtain ⟨C,I,N,hx,hf⟩:=hc k hlk;obtain ⟨⟨pa,pc,rfl⟩,⟨pa2,pc2,rfl⟩,pa3,pc3,rfl⟩:=hf.slices;obtain ⟨x0,x1,x2⟩:=hx;clear hc hf;generalize l[k].cs.length = s1 at *;generalize l[k].is.length = s2 at *;generalize l[k].ns.length = s3 at *
   by_cases c1:(20:Int) < s1
   ·have e1:decide ((20:Int) < s1) = true:=decide_eq_true c1;go_wp2_with fail;go_ret;exact ⟨⟨_,rfl⟩,rfl⟩
   ·have e1:decide ((20:Int) < s1) = false:=decide_eq_false c1
    by_cases c2:(20:Int) < s2
    ·have e2:decide ((20:Int) < s2) = true:=decide_eq_true c2;go_wp2_with fail;go_ret;exact ⟨⟨_,rfl⟩,rfl⟩
    ·have e2:decide ((20:Int) < s2) = false:=decide_eq_false c2
     by_cases c3:(20:Int) < s3
     ·have e3:decide ((20:Int) < s3) = true:=decide_eq_true c3;go_wp2_with fail;go_ret;exact ⟨⟨_,rfl⟩,rfl⟩
     ·have e3:decide ((20:Int) < s3) = false:=decide_eq_false c3;go_wp2_with fail;go_roundw
      case rel => exact ⟨k + 1,by omega,by go_num,zh True.intro⟩
      case measure => simp [intOf]; omega
  ·have hke:k = l.length:=by omega
   subst hke;go_wp2_with fail;go_ret;exact ⟨⟨_,rfl⟩,rfl⟩
end Go.Proofs.YtmnbljijnbhghaaGreatDoor
namespace Go.Proofs.YtmnbljijnbhghaaGreatDoor
set_option maxRecDepth 100000
open Go.RowKit
set_option linter.unusedVariables false
theorem zxag (a:List Int):∀ k i,i < k → ∀ j,j < 4 → (topB a k).getD (4 * i + j) 0 = (b4 (a.getD (a.length - 1 - i) 0)).getD j 0
 | 0,i,hi,_,_ => by omega
 | k + 1,i,hi,j,hj => by
  rw [zqck]
  by_cases e:i = k
  ·subst e;simp only [List.getD,List.getElem?_append,zqef];rw [if_neg (by omega),show 4 * i + j - 4 * i = j by omega]
  ·have ih:=zxag a k i (by omega) j hj
   simp only [List.getD,List.getElem?_append,zqef] at ih ⊢;rw [if_pos (by omega)]
   exact ih
theorem zxbj {a:List Int} (h:Wd a) {k i:Nat} (hi:i < k):wAt (topB a k) i = a.getD (a.length - 1 - i) 0:=by
 have hr:=h.getD (a.length - 1 - i);unfold wAt;rw [show 4 * i = 4 * i + 0 by omega,zxag a k i hi 0 (by decide),show 4 * i + 0 + 1 = 4 * i + 1 by omega,zxag a k i hi 1 (by decide),show 4 * i + 0 + 2 = 4 * i + 2 by omega,zxag a k i hi 2 (by decide),show 4 * i + 0 + 3 = 4 * i + 3 by omega,zxag a k i hi 3 (by decide)]
 generalize a.getD (a.length - 1 - i) 0 = x at *;show ((x / 16777216 * 256 + x / 65536 % 256) * 256 + x / 256 % 256) * 256 + x % 256 = x
 omega
theorem bit4:∀ f,f < 32 → f.testBit 4 = true → f / 16 % 2 = 1:=by decide
theorem zxav {f:Nat} {t:Int} {l:List Int} (hg:Good f t) (h:IsEnc f t l):errN l = 0:=by
 obtain ⟨a,hd,ht,hv,hl,rfl⟩:=h;obtain ⟨hf,h4,-⟩:=hg;have hlow:=zqc1 a;have ha:a ≠ [] → t ≠ 0:=by
  intro hne e;subst e;exact hne (zqbb hd Wd.nil ht (.inl rfl) (by rw [hv]; simp [wv,wvN]))
 have ha2:a ≠ [] → f / 16 % 2 = 1:=fun hne => bit4 f hf (h4 (ha hne))
 have hneg:t < 0 → f / 16 % 2 = 1:=fun hn => bit4 f hf (h4 (by omega))
 have hnil:a.length - lowW a = 0 → a = []:=by
  intro e
  by_cases hne:a = []
  ·exact hne
  ·have:=zqyt ht hne; omega
 have hx:∃ x:Nat,(f:Int) + (if decide (t < 0) = true then 32 else 0) = (x:Int) ∧ x ≤ 63 ∧ x / 16 % 2 = f / 16 % 2 ∧ (x / 32 = 1 ↔ t < 0):=by
  by_cases hn:t < 0
  ·exact ⟨f + 32,by simp [hn],by omega,by omega,by constructor <;> intro _ <;> omega⟩
  ·exact ⟨f,by simp [hn],by omega,by omega,by constructor <;> intro _ <;> omega⟩
 obtain ⟨x,hx1,hx2,hx3,hx4⟩:=hx;unfold errN encB;rw [hx1];have g0:([(x:Int),(lowW a:Int),(a.length:Int) - lowW a] ++ topB a (a.length - lowW a)).getD 0 0 = x:=rfl;have g1:([(x:Int),(lowW a:Int),(a.length:Int) - lowW a] ++ topB a (a.length - lowW a)).getD 1 0 = lowW a:=rfl;have g2:([(x:Int),(lowW a:Int),(a.length:Int) - lowW a] ++ topB a (a.length - lowW a)).getD 2 0 = (a.length:Int) - lowW a:=rfl;have g3:([(x:Int),(lowW a:Int),(a.length:Int) - lowW a] ++ topB a (a.length - lowW a)).drop 3 = topB a (a.length - lowW a):=rfl;have gl:([(x:Int),(lowW a:Int),(a.length:Int) - lowW a] ++ topB a (a.length - lowW a)).length = 3 + 4 * (a.length - lowW a):=by simp [zqef]; omega
 have b0:bad0 (x:Int) = false:=by
  unfold bad0;simp only [Bool.or_eq_false_iff,Bool.and_eq_false_iff,decide_eq_false_iff_not];refine ⟨by omega,?_⟩
  by_cases hn:t < 0
  ·right; have:=hneg hn; omega
  ·left; intro e; exact hn (hx4.1 (by omega))
 have b1:bad1 (x:Int) (lowW a:Int) = false:=by
  unfold bad1;simp only [Bool.or_eq_false_iff,Bool.and_eq_false_iff,decide_eq_false_iff_not]
  by_cases hne:a = []
  ·subst hne; simp [lowW]
  ·have h1:=zqyt ht hne;have h2:=ha2 hne;exact ⟨by omega,.inr (by omega)⟩
 have b2:bad2 (x:Int) (lowW a:Int) ((a.length:Int) - lowW a) = false:=by
  unfold bad2;simp only [Bool.or_eq_false_iff,Bool.and_eq_false_iff,decide_eq_false_iff_not]
  by_cases hne:a = []
  ·subst hne;have ht0:¬ t < 0:=by
    have:wv ([]:List Int) = 0:=by simp [wv,wvN]
    rw [this] at hv; omega
   refine ⟨⟨by simp [lowW],.inl (by simp [lowW])⟩,.inr ⟨by simp [lowW],fun e => ht0 (hx4.1 (by omega))⟩⟩
  ·have h1:=zqyt ht hne;have h2:=ha2 hne;exact ⟨⟨by omega,.inr (by omega)⟩,.inl (by omega)⟩
 rw [g0,g1,g2,g3,gl,b0,b1,b2];rw [if_neg (by omega),if_neg (by decide),if_neg (by omega),if_neg (by decide),if_neg (by omega),if_neg (by decide)]
 have hn:((a.length:Int) - lowW a).toNat = a.length - lowW a:=by omega
 rw [hn];refine zqsb (by rw [zqef]) (fun h0 => ?_)
 have hne:a ≠ []:=by intro e; subst e; simp at h0
 refine ⟨?_,?_⟩
 ·rw [zxbj hd h0,Nat.sub_zero];exact ht.resolve_left hne
 ·rw [zxbj hd (by omega),show a.length - 1 - (a.length - lowW a - 1) = lowW a by omega]
  exact zqg4 a (by omega)
theorem OW.right {x:Int} {z:Wh} (h:OW x z) (hx:I64 x):rightW z = true:=by
 have hl:=h.len hx;unfold rightW;rw [h.abs,h.sum,h.mn,h.mx,zqlx.2 h.ty];simp only [Bool.and_true,Bool.and_eq_true,decide_eq_true_eq];refine ⟨⟨⟨⟨?_,?_⟩,?_⟩,?_⟩,?_⟩ <;> omega
theorem zxbx (x:Nat):lessB x x = false:=by simp [lessB]
theorem OR.right {x:Nat} {z:Re} (h:OR x z) (hx:W64 x):rightR z = true:=by
 unfold rightR;rw [zxav (zqmx x hx) h.sum,h.mn,h.mx,zxbx]
 rfl
theorem OC.right {S:Sc} {m:Int} {f:Fa} {c:Ce} (h:OC S m f c) (hf:FaWf f) (h0:oneE S m f = 0):rightC S m c = true:=by
 obtain ⟨q1,q2,q3,q4⟩:=zqpp h0;obtain ⟨o1,o2,o3⟩:=zqz8 q3;obtain ⟨f1,f2,f3,f4⟩:=zqph q2;have hz:=(zqeb q1).2;have hk:c.key < keysL S.ds m S.ds.length:=by
  rw [h.key,zqh8];unfold ofL;rw [if_pos q3];exact (zqjc (fun j hj => zqdg hz j (by omega)) (fun j hj hp => o3 j (by omega) hp)).2
 unfold rightC validC;rw [zqmh (fun k hk => (h.is k (by rw [← h.li]; exact hk)).right (zqd4 (P:=I64) hf.i (by rw [← h.li]; exact hk))),zqmg (fun k hk => (h.ns k (by rw [← h.ln]; exact hk)).right (zqd4 (P:=W64) hf.n (by rw [← h.ln]; exact hk)))]
 simp only [Bool.and_true,Bool.and_eq_true,decide_eq_true_eq];exact ⟨⟨q1,(zqg5 o1).2⟩,⟨⟨hk,by rw [h.cnt]; decide⟩,by rw [h.li,f2]⟩,by rw [h.ln,f3]⟩
set_option maxHeartbeats 8000000 in
theorem zxam (w:World) (u v:Value) (l m:List Ce) (hu:Cells w u l) (hv:Cells w v m) (hw:LsW l) (hw':LsW m) :
  Calls Tryz.prog 24 #[u,v] w fun e w' => e = .returned (.bool (eqsC l m)) ∧ Below w.heap.size w w':=by
 have HU:=zh hu;have HV:=zh hv;have HW:=zh (fun k (hk:k < l.length) => hw.cg hk)
 have HW':=zh (fun k (hk:k < m.length) => hw'.cg hk)
 obtain ⟨a,cap,rfl,-,hmx,-⟩:=hu;obtain ⟨a',cap',rfl,-,-,-⟩:=hv
 by_cases hl:l.length = m.length
 ·have HY:=zh (fun (h:∀ k,k < l.length → sameC (cg l k) (cg m k) = true) => show eqsC l m = true by unfold eqsC; rw [decide_eq_true hl,Bool.true_and]; exact List.all_eq_true.2 fun x hx => h x (by simpa using hx))
  have HN:=zh (fun k (hk:k < l.length) (h:sameC (cg l k) (cg m k) = false) => show eqsC l m = false by unfold eqsC; rw [decide_eq_true hl,Bool.true_and]; exact List.all_eq_false.2 ⟨k,by simpa using hk,by simp [h]⟩)
  have hnn:((l.length:Int) != (m.length:Int)) = false:=by simp [hl]
  have HL:=zh hl;generalize eqsC l m = R at *;clear hw hw' hl;go_enter Tryz.func24,Tryz.ntmps24;go_wp2_with fail;go_loopw [5] (fun iv wr => ∃ k:Nat,k ≤ l.length ∧ iv = .int .i64 k ∧ Hid (Below w.heap.size w wr ∧ ∀ j,j < k → sameC (cg l j) (cg m j) = true)) (fun iv _ => l.length - (intOf iv).toNat)
  case atStart => exact ⟨0,Nat.zero_le _,rfl,zh ⟨Below.refl _ _,fun j hj => by omega⟩⟩
  case round =>
   obtain ⟨k,hk,rfl,HS⟩:=hrel
   by_cases hlk:k < l.length
   ·have hlk':(k:Int) < (l.length:Int):=by omega
    have hkb0:k < m.length:=by have:=HL.out; omega
    have hkb:(k:Int) < (m.length:Int):=by omega
    have hle:Hid (k + 1 ≤ l.length):=zh (by omega)
    obtain ⟨ba,oa,rfl,-,I,N,hqa⟩:=(HU.out.below HS.out.1).at hlk;obtain ⟨bb,ob,rfl,-,J,M,hqb⟩:=(HV.out.below HS.out.1).at hkb0;have HWx:=HW.out k hlk;have HWy:=HW'.out k hkb0;have HNk:=zh (fun h => HN.out k hlk h)
    have HSn:=zh (fun (h:sameC (cg l k) (cg m k) = true) j (hj:j < k + 1) => show sameC (cg l j) (cg m j) = true from if e:j = k then e ▸ h else HS.out.2 j (by omega))
    have HBk:=zh HS.out.1;generalize cg l k = x at *;generalize cg m k = y at *;have HC:=zh (fun w1 (hb:Below wr.heap.size wr w1) => zqow w1 x y I N J M (hqa.m.below hb) (hqb.m.below hb) HWx HWy)
    obtain ⟨⟨p,c,rfl⟩,q,d,rfl⟩:=hqa.m.slices;obtain ⟨⟨p',c',rfl⟩,q',d',rfl⟩:=hqb.m.slices;obtain ⟨f0,f1,f2,f3,-⟩:=hqa;obtain ⟨g0,g1,g2,g3,-⟩:=hqb;clear HWx HWy HS;generalize sameC x y = T at *;obtain ⟨x0,x1,x2,x3⟩:=x;obtain ⟨y0,y1,y2,y3⟩:=y
    dsimp only at f0 f1 f2 f3 g0 g1 g2 g3
    go_upto_region 6 with fail;have hk8:wr.drew.cell? ⟨ba,oa + k * 4,none⟩ = some (.int .u64 x0) ∧ wr.drew.cell? ⟨ba,oa + k * 4 + 1,none⟩ = some (.int .i64 x1) ∧ wr.drew.cell? ⟨ba,oa + k * 4 + 2,none⟩ = some (.slice p x2.length c) ∧ wr.drew.cell? ⟨ba,oa + k * 4 + 3,none⟩ = some (.slice q x3.length d) ∧ wr.drew.cell? ⟨bb,ob + k * 4,none⟩ = some (.int .u64 y0) ∧ wr.drew.cell? ⟨bb,ob + k * 4 + 1,none⟩ = some (.int .i64 y1) ∧ wr.drew.cell? ⟨bb,ob + k * 4 + 2,none⟩ = some (.slice p' y2.length c') ∧ wr.drew.cell? ⟨bb,ob + k * 4 + 3,none⟩ = some (.slice q' y3.length d'):=⟨f0,f1,f2,f3,g0,g1,g2,g3⟩;clear f0 f1 f2 f3 g0 g1 g2 g3;have hBw:Below wr.heap.size wr wr.drew:=(Below.refl _ _).drew;go_region_held3 (fun w' => w'.cell? ⟨ba,oa + k * 4,none⟩ = some (.int .u64 x0) ∧ w'.cell? ⟨ba,oa + k * 4 + 1,none⟩ = some (.int .i64 x1) ∧ w'.cell? ⟨ba,oa + k * 4 + 2,none⟩ = some (.slice p x2.length c) ∧ w'.cell? ⟨ba,oa + k * 4 + 3,none⟩ = some (.slice q x3.length d) ∧ w'.cell? ⟨bb,ob + k * 4,none⟩ = some (.int .u64 y0) ∧ w'.cell? ⟨bb,ob + k * 4 + 1,none⟩ = some (.int .i64 y1) ∧ w'.cell? ⟨bb,ob + k * 4 + 2,none⟩ = some (.slice p' y2.length c') ∧ w'.cell? ⟨bb,ob + k * 4 + 3,none⟩ = some (.slice q' y3.length d')) (with_reducible exact hk8)
     (first | (go_at_call 18; refine (HC.out _ hBw).mono ?_; rintro e w1 ⟨rfl,hb1⟩; replace hk8:=hold8 hb1 hk8; have hBw:=zqaa hBw hb1; clear hb1))
    have HB1:=zh (zqaa HBk.out hBw);clear HC hk8 hBw;cases T with
    | true =>
     have HJ:=zh (HSn.out rfl);go_wp2_with fail;go_roundw
     case rel => exact ⟨k + 1,hle.out,by go_num,zh ⟨HB1.out,HJ.out⟩⟩
     case measure => simp [intOf]; omega
    | false =>
     have hR:=HNk.out rfl;subst hR;go_wp2_with fail;go_ret;exact ⟨rfl,HB1.out⟩
   ·have:k = l.length:=by omega
    subst this;have hR:=HY.out HS.out.2;subst hR;go_wp2_with fail;go_ret;exact ⟨rfl,HS.out.1⟩
 ·have hR:eqsC l m = false:=by unfold eqsC; rw [decide_eq_false hl]; rfl
  rw [hR];have hnn:((l.length:Int) != (m.length:Int)) = true:=by simp; omega
  clear HU HV HW HW' hw hw' hl;go_enter Tryz.func24,Tryz.ntmps24;go_wp2_with fail;go_ret;exact ⟨rfl,Below.refl _ _⟩
theorem zxar {l:List Ce}:risingB l = true ↔ risingC l:=by
 constructor
 ·intro h;unfold risingC;rw [List.pairwise_iff_getElem];intro i j hi hj hij;have:=zqew h i j hij hj
  rwa [zqat hi,zqat hj] at this
 ·intro h;rw [zqdq];intro i hi;unfold risingC at h;rw [List.pairwise_iff_getElem] at h;rw [zqat (by omega),zqat hi]
  exact h i (i + 1) (by omega) hi (by omega)
theorem zxal:∀ (l acc:List Ce),risingC acc → (foldC acc l).1 = 0 → risingC (foldC acc l).2
 | [],acc,h,_ => h
 | c :: l,acc,h,e => by
  unfold foldC at e ⊢
  by_cases q:(withL acc c).1 = 0
  ·rw [if_pos q] at e ⊢;refine zxal l _ ?_ e;cases hl:lookC acc c.key with
   | none => exact (zqx1 h (zqg3 hl)).2.2.1
   | some x =>
    obtain ⟨hx,hk⟩:=zqde hl;obtain ⟨i1,i2⟩:=zqir h hx hk;exact (i2 (i1.symm.trans q)).2.1
  ·rw [if_neg q] at e; exact absurd e q
theorem zxae {S:Sc} {a b:Int} {c:Ce} (h:rightC S a c = true) (hs:subM b a = true):downL S a b c.key = downG (dz S.ds) (bitG a) (bitG b) S.ds.length c.key:=by
 unfold rightC validC at h;simp only [Bool.and_eq_true,decide_eq_true_eq] at h;have h1:downE S a b c.key = 0:=by
  unfold downE numE;rw [if_pos h.1.1,if_pos h.1.2,if_pos rfl,if_pos hs,if_neg (by omega)]
 unfold downL;rw [if_pos h1]
theorem zxbh {S:Sc} {m:Int} {f:Fa} (hc:checkL S = 0) (hm:m ≤ fullL S.ds):oneE S m f = if fitsL S f = 0 then if minB f.is = true then 10 else 0 else fitsL S f:=by
 unfold oneE;rw [if_pos hc]
 by_cases h:fitsL S f = 0
 ·obtain ⟨h1,-,-,h4⟩:=zqph h;have h5:ofE S m f.cs = 0:=by
   unfold ofE numE;rw [if_pos hc,if_pos hm,if_pos rfl,if_pos h1,if_pos];refine zqxh fun k hk => ?_
   have h6:=zqyb h4 (k:=k) (by omega)
   unfold rngAt;simp only [Bool.or_eq_true,Bool.and_eq_true,decide_eq_true_eq,Bool.not_eq_true']
   first
    | exact .inr h6
    | exact .inr ⟨h6.1,h6.2⟩
    | (cases bitG m k <;> simp [h6])
  rw [if_pos h,if_pos h,if_pos h5]
 ·rw [if_neg h,if_neg h]
theorem JW.right {x y z:Wh} (h:JW x y z) (hx:rightW x = true) (hy:rightW y = true) (hl:z.sq.length ≤ 7):rightW z = true:=by
 unfold rightW at *;rw [zqlx.2 h.ty];simp only [Bool.and_eq_true,decide_eq_true_eq,Bool.and_true] at *;have h1:=h.sum;have h2:=h.abs;have h3:=h.mn;have h4:=h.mx;omega
theorem zxbo {a b c d:Nat} (h1:lessB b a = false) (h2:lessB d c = false):lessB (if lessB b d then d else b) (if lessB c a then c else a) = false:=by
 unfold lessB at *;simp only [decide_eq_true_eq,decide_eq_false_iff_not] at *
 split <;> split <;> omega
theorem JR.right {x y z:Re} (h:JR x y z) (wx:ReW x) (wy:ReW y) (hx:rightR x = true) (hy:rightR y = true):rightR z = true:=by
 have hg:errN z.sum = 0:=zxav (Good.join (zqgs wx.sum h.e1).1 (zqgs wy.sum h.e2).1 h.ft) h.sum;unfold rightR at *;simp only [Bool.and_eq_true,decide_eq_true_eq,Bool.not_eq_true'] at *;refine ⟨hg,?_⟩;rw [h.mn,h.mx];exact zxbo hx.2 hy.2
theorem JC.right {S:Sc} {m:Int} {a b c:Ce} (h:JC a b c) (he:errJ a b = 0) (wa:CeW a) (wb:CeW b) (ha:rightC S m a = true) (hb:rightC S m b = true) (hl:∀ k,k < c.is.length → (wg c.is k).sq.length ≤ 7):rightC S m c = true:=by
 obtain ⟨q1,q2,q3,-⟩:=zqfp he;unfold rightC validC at *;simp only [Bool.and_eq_true,decide_eq_true_eq] at *;obtain ⟨ha0,⟨⟨⟨⟨ha1,ha2⟩,ha3⟩,ha4⟩,ha5⟩,ha6⟩:=ha;obtain ⟨hb0,⟨⟨⟨⟨hb1,hb2⟩,hb3⟩,hb4⟩,hb5⟩,hb6⟩:=hb;refine ⟨ha0,⟨⟨⟨⟨by rw [h.key]; exact ha1,by rw [h.cnt]; omega⟩,by rw [h.li]; exact ha3⟩,by rw [h.ln]; exact ha4⟩,zqmh fun k hk => ?_⟩,zqmg fun k hk => ?_⟩
 ·have hk2:k < a.is.length:=by rw [← h.li]; exact hk
  exact (h.is k hk2).right (List.all_eq_true.1 ha5 k (by simpa using hk2)) (List.all_eq_true.1 hb5 k (by simpa using (by omega:k < b.is.length))) (hl k hk)
 ·have hk2:k < a.ns.length:=by rw [← h.ln]; exact hk
  exact (h.ns k hk2).right (wa.rg hk2) (wb.rg (by omega)) (List.all_eq_true.1 ha6 k (by simpa using hk2)) (List.all_eq_true.1 hb6 k (by simpa using (by omega:k < b.ns.length)))
theorem ow_ex (x:Int):∃ z,OW x z:=by
 obtain ⟨l,k1,k2,k3,-⟩:=zqn2 (x * x).toNat;have h0:0 ≤ x * x:=by
  rcases Int.le_total 0 x with h | h
  ·exact Int.mul_nonneg h h
  ·exact Int.mul_nonneg_of_nonpos_of_nonpos h h
 exact ⟨⟨x,x.natAbs,l,x,x⟩,rfl,rfl,k1,k2,by rw [k3]; omega,rfl,rfl⟩
theorem or_ex {x:Nat} (hx:W64 x):∃ z,OR x z:=by
 have hg:=(zqmx x hx).2.2;unfold Fits at hg;obtain ⟨a,k1,k2,k3,k4⟩:=zqn2 (unitsI x).natAbs;have hlen:a.length ≤ 70:=by
  apply k4
  by_cases h0:(unitsI x).natAbs = 0
  ·rw [h0]; exact Nat.pow_pos (by decide)
  ·exact zqub (m:=70) h0 (by omega)
 exact ⟨⟨encB (flagN x) (decide (unitsI x < 0)) a,x,x⟩,⟨a,k1,k2,k3,hlen,rfl⟩,rfl,rfl⟩
theorem oc_ex {S:Sc} {m:Int} {f:Fa} (hf:FaWf f):∃ c,OC S m f c:=by
 have e1:∀ k,∃ z,OW (f.is.getD k 0) z:=fun k => ow_ex _
 have e2:∀ k,∃ z,k < f.ns.length → OR (f.ns.getD k 0) z:=fun k => by
  by_cases hk:k < f.ns.length
  ·obtain ⟨z,hz⟩:=or_ex (zqd4 (P:=W64) hf.n hk);exact ⟨z,fun _ => hz⟩
  ·exact ⟨re0,fun h => absurd h hk⟩
 refine ⟨⟨ofL S m f.cs,1,(List.range f.is.length).map fun k => Classical.choose (e1 k),(List.range f.ns.length).map fun k => Classical.choose (e2 k)⟩,rfl,rfl,by simp,by simp,fun k hk => ?_,fun k hk => ?_⟩
 ·have e:wg ((List.range f.is.length).map fun k => Classical.choose (e1 k)) k = Classical.choose (e1 k):=by
   rw [zqaq (by simpa using hk)]; simp
  show OW _ (wg ((List.range f.is.length).map fun k => Classical.choose (e1 k)) k)
  rw [e]; exact Classical.choose_spec (e1 k)
 ·have e:rg ((List.range f.ns.length).map fun k => Classical.choose (e2 k)) k = Classical.choose (e2 k):=by
   rw [zqap (by simpa using hk)]; simp
  show OR _ (rg ((List.range f.ns.length).map fun k => Classical.choose (e2 k)) k)
  rw [e]; exact Classical.choose_spec (e2 k) hk
theorem zxau {S:Sc} {m:Int} {f:Fa} (hf:FaWf f):OC S m f (celC S m f):=by
 obtain ⟨c,hc⟩:=oc_ex (S:=S) (m:=m) hf;rw [← zqka hc];exact hc
def Fv (S:Sc) (m:Int) (n:Nat) (c:Ce):Prop:=Sv n c ∧ rightC S m c = true ∧ ∀ k,k < c.is.length → wv (wg c.is k).sq ≤ n * 85070591730234615865843651857942052864
theorem Fv.mono {S:Sc} {m:Int} {n k:Nat} {c:Ce} (h:Fv S m n c) (hk:n ≤ k):Fv S m k c :=
 ⟨h.1.mono hk,h.2.1,fun i hi => Int.le_trans (h.2.2 i hi) (Int.mul_le_mul_of_nonneg_right (by omega) (by decide))⟩
theorem zxby {x:Int} (h:I64 x):x * x ≤ 85070591730234615865843651857942052864:=by
 have h1:x.natAbs ≤ 9223372036854775808:=by unfold I64 at h; omega
 have h2:=Nat.mul_le_mul h1 h1;have h3:=Int.natAbs_mul_self (a:=x);omega
theorem zxbw {S:Sc} {m:Int} {f:Fa} (hf:FaWf f) (h0:oneE S m f = 0):Fv S m 1 (celC S m f):=by
 have ho:=zxau (S:=S) (m:=m) hf;refine ⟨ho.sv hf h0,ho.right hf h0,fun k hk => ?_⟩
 have hk2:k < f.is.length:=by rw [← ho.li]; exact hk
 rw [(ho.is k hk2).sq,Int.natCast_one,Int.one_mul];exact zxby (zqd4 (P:=I64) hf.i hk2)
theorem zxcd {S:Sc} {m:Int} {n:Nat} {a b:Ce} (ha:Fv S m n a) (hb:Fv S m 1 b) (hn:n ≤ 250) (e:errJ a b = 0):Fv S m (n + 1) (joinC a b):=by
 have hj:=zqk6 ha.1.1 hb.1.1 e;obtain ⟨q1,q2,q3,-⟩:=zqfp e;have hsq:∀ k,k < (joinC a b).is.length → wv (wg (joinC a b).is k).sq ≤ ((n + 1:Nat):Int) * 85070591730234615865843651857942052864:=fun k hk => by
  have hk2:k < a.is.length:=by rw [← hj.li]; exact hk
  have h1:=ha.2.2 k hk2;have h2:=hb.2.2 k (by omega)
  rw [(hj.is k hk2).sq];omega
 refine ⟨zqzm ha.1 hb.1 (by omega) e,hj.right e ha.1.1 hb.1.1 ha.2.1 hb.2.1 fun k hk => ?_,hsq⟩
 have hk2:k < a.is.length:=by rw [← hj.li]; exact hk
 have h3:=hsq k hk;have h4:=(hj.is k hk2).ty.wlen (hj.is k hk2).wd (n:=5) (by
  refine Int.lt_of_le_of_lt h3 ?_;have:((n + 1:Nat):Int) ≤ 251:=by omega
  exact Int.lt_of_le_of_lt (Int.mul_le_mul_of_nonneg_right this (by decide)) (by decide))
 omega
theorem zxbk {S:Sc} {m:Int}:∀ {l:List Ce} {c:Ce} {n:Nat},(∀ x ∈ l,Fv S m n x) → Fv S m 1 c → 1 ≤ n → n ≤ 250 → ∀ x ∈ (withL l c).2,Fv S m (n + 1) x
 | [],c,n,_,hc,h1,_,x,hx => by
  obtain rfl:x = c:=by simpa [withL] using hx
  exact hc.mono (by omega)
 | y :: l,c,n,hl,hc,h1,hn,x,hx => by
  have hy:=hl y (List.mem_cons_self ..);have ih:=fun x => zxbk (l:=l) (c:=c) (n:=n) (fun z hz => hl z (List.mem_cons_of_mem _ hz)) hc h1 hn x
  unfold withL at hx
  by_cases q:y.key < c.key
  ·rw [if_pos q] at hx
   by_cases e:(withL l c).1 = 0
   ·rw [if_pos e] at hx;rcases List.mem_cons.1 hx with rfl | hx
    ·exact hy.mono (by omega)
    ·exact ih x hx
   ·rw [if_neg e] at hx; cases hx
  ·rw [if_neg q] at hx
   by_cases q2:y.key = c.key
   ·rw [if_pos q2] at hx
    by_cases e:errJ y c = 0
    ·rw [if_pos e] at hx;rcases List.mem_cons.1 hx with rfl | hx
     ·exact zxcd hy hc hn e
     ·exact (hl x (List.mem_cons_of_mem _ hx)).mono (by omega)
    ·rw [if_neg e] at hx; cases hx
   ·rw [if_neg q2] at hx;rcases List.mem_cons.1 hx with rfl | hx
    ·exact hc.mono (by omega)
    ·exact (hl x hx).mono (by omega)
theorem zxbe {l:List Ce} {c:Ce} (hr:risingC l) (e:(withL l c).1 = 0):risingC (withL l c).2:=by
 cases hl:lookC l c.key with
 | none => exact (zqx1 hr (zqg3 hl)).2.2.1
 | some x =>
  obtain ⟨hx,hk⟩:=zqde hl;obtain ⟨i1,i2⟩:=zqir hr hx hk;exact (i2 (i1.symm.trans e)).2.1
theorem zxak {S:Sc} {m:Int}:∀ (l:List Fa) (acc:List Ce) (n:Nat),(∀ f ∈ l,FaWf f) → risingC acc → (∀ x ∈ acc,Fv S m n x) → 1 ≤ n → n + l.length ≤ 250 → (foldF S m acc l).1 = 0 →
  risingC (foldF S m acc l).2 ∧ ∀ x ∈ (foldF S m acc l).2,Fv S m (n + l.length) x
 | [],acc,n,_,hr,ha,_,_,_ => ⟨hr,fun x hx => (ha x hx).mono (by simp)⟩
 | f :: l,acc,n,hf,hr,ha,h1,hn,he => by
  simp only [List.length_cons] at hn;unfold foldF at he ⊢
  by_cases h0:oneE S m f = 0
  ·rw [if_pos h0] at he ⊢
   by_cases hw:(withL acc (celC S m f)).1 = 0
   ·rw [if_pos hw] at he ⊢;have hc:=zxbw (m:=m) (hf f (List.mem_cons_self ..)) h0;have ih:=zxak l _ (n + 1) (fun g hg => hf g (List.mem_cons_of_mem _ hg)) (zxbe hr hw) (zxbk ha hc h1 (by omega)) (by omega) (by omega) he
    exact ⟨ih.1,fun x hx => (ih.2 x hx).mono (by simp only [List.length_cons]; omega)⟩
   ·rw [if_neg hw] at he; exact absurd he hw
  ·rw [if_neg h0] at he; exact absurd he h0
theorem zxai {S:Sc} {m:Int} {l:List Fa} (hf:∀ f ∈ l,FaWf f) (he:(foldE S m l).1 = 0):rightL S m (foldE S m l).2 = true ∧ ∀ x ∈ (foldE S m l).2,Sv 250 x:=by
 unfold foldE at he ⊢
 by_cases h1:checkL S = 0
 ·rw [if_pos h1] at he ⊢
  by_cases h2:m ≤ fullL S.ds
  ·rw [if_pos h2] at he ⊢
   by_cases h3:l.length ≤ 200
   ·rw [if_pos h3] at he ⊢;obtain ⟨i1,i2⟩:=zxak (m:=m) l [] 1 hf List.Pairwise.nil (fun x hx => nomatch hx) (by omega) (by omega) he
    exact ⟨zqfz.2 ⟨⟨h1,h2⟩,zxar.2 i1,fun i hi => by rw [zqat hi]; exact (i2 _ (List.getElem_mem hi)).2.1⟩,fun x hx => ((i2 x hx).mono (by omega)).1⟩
   ·rw [if_neg h3] at he; cases he
  ·rw [if_neg h2] at he; cases he
 ·rw [if_neg h1] at he; cases he
theorem zxb2 {H:Type} {enc:TypeId × Value → H} {w:World} {base:Nat} {spare:Nat → Bool} {held:Bool} {v:Value} {d:DataW H} {p:List MemPlace}
  (h:DataW.Trod enc Tryz.prog w base spare held 47 v d p) (hs:∃ a l c,v = .slice a l c):∃ l,Facts w v l ∧ ∀ f ∈ l,FaWf f :=
 zxbt Tryz.underlying47 (by kernel_rfl)
  (fun h => zxbp Tryz.underlying73 (by kernel_rfl) rfl rfl rfl Tryz.underlying69 Tryz.underlying70 Tryz.underlying71 (by kernel_rfl) (by kernel_rfl) (by kernel_rfl)
   Tryz.underlying3 Tryz.underlying2 Tryz.underlying88 (by kernel_rfl) (by kernel_rfl) (by kernel_rfl) h) h hs
def LisP (w:World) (R:Nat × List Ce) (e:Ending) (w':World):Prop:=∃ a n c,e = .returned (.tuple #[.slice a n c,.int .i64 R.1]) ∧ n = R.2.length ∧ Cells w' (.slice a n c) R.2 ∧ Below w.heap.size w w'
theorem RollP.lis {w w':World} {R:Nat × List Ce} {e:Ending} (h:RollP w R e w'):LisP w R e w':=by
 obtain ⟨r,ps,rfl,hr,hp,hb⟩:=h;obtain ⟨a,c,rfl⟩:=hr.any;have hc:=hr.cells;rw [hp] at hc;exact ⟨a,_,c,rfl,by rw [← hp,List.length_map],hc,hb⟩
theorem zxa4 {S:Sc} {m:Int}:∀ (l:List Fa) (acc:List Ce),¬ (foldF S m acc l).1 = 0 → (foldF S m acc l).2 = []
 | [],acc,h => absurd rfl h
 | f :: l,acc,h => by
  unfold foldF at h ⊢
  by_cases h0:oneE S m f = 0
  ·rw [if_pos h0] at h ⊢
   by_cases h1:(withL acc (celC S m f)).1 = 0
   ·rw [if_pos h1] at h ⊢;exact zxa4 l _ h
   ·rw [if_neg h1]
  ·rw [if_neg h0]
theorem zxbu {S:Sc} {m:Int} {l:List Fa} (h:¬ (foldE S m l).1 = 0):(foldE S m l).2 = []:=by
 unfold foldE at h ⊢
 by_cases h1:checkL S = 0
 ·rw [if_pos h1] at h ⊢
  by_cases h2:m ≤ fullL S.ds
  ·rw [if_pos h2] at h ⊢
   by_cases h3:l.length ≤ 200
   ·rw [if_pos h3] at h ⊢;exact zxa4 l _ h
   ·rw [if_neg h3]
  ·rw [if_neg h2]
 ·rw [if_neg h1]
theorem zxaw {S:Sc} {m:Int} {l:List Fa} (hf:∀ f ∈ l,FaWf f):LsW (foldE S m l).2:=by
 by_cases h:(foldE S m l).1 = 0
 ·exact fun c hc => ((zxai hf h).2 c hc).1
 ·rw [zxbu h];exact fun c hc => nomatch hc
theorem Facts.len {w:World} {v:Value} {l:List Fa} (h:Facts w v l):∃ a c,v = .slice a l.length c:=by
 obtain ⟨a,c,rfl,-⟩:=h;exact ⟨a,c,rfl⟩
set_option maxHeartbeats 1000000 in
theorem zxb9 (w:World) (n:Nat) (hn:n ≤ 9223372036854775807) :
  Calls Tryz.prog 60 #[.int .i64 n] w fun e w' => (∃ x:Int,e = .returned (.int .u32 x) ∧ 0 ≤ x ∧ x ≤ 4294967295) ∧ w = w':=by
 have HWr:=zh (fun y:Int => show 0 ≤ IntKind.u32.wrap y ∧ IntKind.u32.wrap y ≤ 4294967295 from by rw [IntKind.wrap_u32]; omega)
 go_enter Tryz.func60,Tryz.ntmps60;go_wp2;go_loopw [3,4] (fun x i wr => ∃ k:Nat,k ≤ n ∧ i = .int .i64 k ∧ w = wr ∧ ∃ y:Int,x = .int .u32 y ∧ Hid (0 ≤ y ∧ y ≤ 4294967295)) (fun _ i _ => n - (intOf i).toNat)
 case atStart => exact ⟨0,Nat.zero_le _,rfl,rfl,1,rfl,zh ⟨by decide,by decide⟩⟩
 case round =>
  obtain ⟨k,hk,rfl,rfl,y,rfl,HY⟩:=hrel
  by_cases hlk:k < n
  ·have HY2:=zh (HWr.out (2 * y));go_wp2;go_roundw
   case rel => exact ⟨k + 1,by omega,by go_num,by trivial,_,rfl,HY2⟩
   case measure => simp [intOf]; omega
  ·have:k = n:=by omega
   subst this;go_wp2;go_ret;exact ⟨⟨y,rfl,HY.out.1,HY.out.2⟩,rfl⟩
set_option maxHeartbeats 1000000 in
theorem zxbq (w:World) (D I M V:Value) (S:Sc) (h:Sch4 w D I M V S) (hn:S.ds.length ≤ 9223372036854775807) :
  Calls Tryz.prog 30 #[SchV D I M V] w fun e w' => (∃ x:Int,e = .returned (.int .u32 x) ∧ 0 ≤ x ∧ x ≤ 4294967295) ∧ Below w.heap.size w w':=by
 obtain ⟨⟨a,c,rfl⟩,-,-,-⟩:=h.slices;have HB:=zh (zqab w (SchO (.slice a S.ds.length c) I M V));have HT:=zh (fun w => zxb9 w S.ds.length hn)
 have HWr:=zh (fun y:Int => show 0 ≤ IntKind.u32.wrap y ∧ IntKind.u32.wrap y ≤ 4294967295 from by rw [IntKind.wrap_u32]; omega)
 clear h;go_enter Tryz.func30,Tryz.ntmps30;go_wp2_with fail;refine (HT.out _).mono ?_; rintro e w1 ⟨⟨x,rfl,-,-⟩,rfl⟩;go_wp2_with fail;go_ret;exact ⟨⟨_,rfl,HWr.out _⟩,HB.out⟩
end Go.Proofs.YtmnbljijnbhghaaGreatDoor
