/- Layer 15: CellsTwice: what is rolled up in two steps is what it is in one, and what it is folded at once: any schema, any facts, any two sets one within the other; no condition. -/
import Derived.SevenTiedAt
import Derived.BigQuiet
import Derived.Deep.QuietTactic
import Derived.Lib.AppendZeros
import Derived.Deep.RegionHeld3
import Derived.WalkKit
import Derived.Maps.OwnSet
import Derived.Lib.Hide
import Derived.Below
import Derived.OpenShut
import Derived.Deep.Draws
import Derived.Deep.CutBlock
import Derived.WalkSmall
import Derived.SliceStrings
import Derived.Laws.FloatArith
import Derived.WalkLawsBesides
import Derived.Laws.Externs
import Derived.Laws.BitsAllLaws
import Derived.Shelf.Spec.TrailingZeros
import Derived.Laws.Bits64b
import Derived.Lib.BitFns
import Derived.Lib.Small
import Derived.Lib.Strings
import Derived.Lib.Slices
import Derived.Lib.Walk
import Derived.WalkSpells
import Derived.OwnWalk
import Derived.Laws.Bits64
import Derived.Deep.DeepCutAuto
import Derived.Deep.RegionLawGrows
import Derived.Lib.ItoaNum
import Derived.Deep.AppendLies
import Derived.Deep.LoopGhost
import Derived.RegionTactic
import Derived.ChangeAlike
import Derived.Laws.IdiomStrings
import Derived.ProofKit
import Derived.LaidMore
import Derived.Stop.Joined
import Derived.Lib.LaidTab
import Derived.Laws.BytesArg
import Derived.Deep.RegionLaw
import Derived.Outline
import Derived.Deep.RegionWith
import Derived.ChangeSlices
import Derived.Deep.RegionHeld
import Derived.Deep.DrawnRows
import Derived.Deep.CutRange
import Derived.Deep.Slices
import Derived.Deep.Fields
import Derived.ChangeSame
import Derived.Lib.SmallJoins
import Derived.Lib.Bytealg
import Derived.Lib.ConvBytes
import Derived.Laws.CopyRow
import Derived.Laws.IdiomCopy
import Derived.Laws.OwnMore
import Derived.Laws.MakeOwn
import Derived.Maps.Ext
import Derived.Maps.RangeWalk
import Derived.Sort.OwnSorted
import Derived.Shelf.SlSortCmp.WholeK
import Derived.Shelf.SlSortCmp.NoneTotal
import Derived.Test.YtmnbljijnbhghaaGreatDoorRows
import Derived.Test.YtmnbljijnbhghaaGreatDoorCards
import Derived.Test.YtmnbljijnbhghaaGreatDoorTie
import Derived.Test.YtmnbljijnbhghaaGreatDoorProg
import Derived.Test.YtmnbljijnbhghaaGreatDoorPq01
import Derived.Test.YtmnbljijnbhghaaGreatDoorPq02
import Derived.Test.YtmnbljijnbhghaaGreatDoorPq03
import Derived.Test.YtmnbljijnbhghaaGreatDoorPt01
import Derived.Test.YtmnbljijnbhghaaGreatDoorPt02
import Derived.Test.YtmnbljijnbhghaaGreatDoorPt03
import Derived.Test.YtmnbljijnbhghaaGreatDoorPt04
import Derived.Test.YtmnbljijnbhghaaGreatDoorPt05
import Derived.Test.YtmnbljijnbhghaaGreatDoorPt06
import Derived.Test.YtmnbljijnbhghaaGreatDoorPt07
import Derived.Test.YtmnbljijnbhghaaGreatDoorPt08
import Derived.Test.YtmnbljijnbhghaaGreatDoorPt09
import Derived.Test.YtmnbljijnbhghaaGreatDoorPt10
import Derived.Test.YtmnbljijnbhghaaGreatDoorPt11
import Derived.Test.YtmnbljijnbhghaaGreatDoorPt12
import Derived.Test.YtmnbljijnbhghaaGreatDoorPt13
import Derived.Test.YtmnbljijnbhghaaGreatDoorPt14
import Derived.Test.YtmnbljijnbhghaaGreatDoorPt15
import Derived.Test.YtmnbljijnbhghaaGreatDoorPt16
import Derived.Test.YtmnbljijnbhghaaGreatDoorPt17
import Derived.Test.YtmnbljijnbhghaaGreatDoorPt18
import Derived.Test.YtmnbljijnbhghaaGreatDoorPt19
import Derived.Test.YtmnbljijnbhghaaGreatDoorPt20
import Derived.Test.YtmnbljijnbhghaaGreatDoorPt21
import Derived.Test.YtmnbljijnbhghaaGreatDoorPt22
import Derived.Test.YtmnbljijnbhghaaGreatDoorPt23
import Derived.Test.YtmnbljijnbhghaaGreatDoorPt24
import Derived.Test.YtmnbljijnbhghaaGreatDoorPt25
import Derived.Test.YtmnbljijnbhghaaGreatDoorPt26
import Derived.Test.YtmnbljijnbhghaaGreatDoorPt27
import Derived.Test.YtmnbljijnbhghaaGreatDoorPt28
import Derived.Test.YtmnbljijnbhghaaGreatDoorPt29
import Derived.Test.YtmnbljijnbhghaaGreatDoorPt30
import Derived.Test.YtmnbljijnbhghaaGreatDoorPt31
import Derived.Test.YtmnbljijnbhghaaGreatDoorPt32
import Derived.Test.YtmnbljijnbhghaaGreatDoorPt33
namespace Go.Proofs.YtmnbljijnbhghaaGreatDoor.cellsTwice
set_option maxRecDepth 100000
open Go.ChangeShapes Go.WideShapes Go.ChangeAt Go.RowKit
set_option linter.unusedVariables false
set_option maxHeartbeats 16000000 in
theorem walk (D I N V:Value) (S:Sc) (v:Value) (l:List Fa) (x y:Int) (w:World) (h:Sch4 w D I N V S) (hw:SWf S) (h':Facts w v l) (hf:∀ f ∈ l,FaWf f) (hx:0 ≤ x ∧ x ≤ 4294967295) (hy:0 ≤ y ∧ y ≤ 4294967295) (hT:Tab w) (hT2:Tab64 w) :
  Calls Tryz.prog 8 #[SchV D I N V,v,.agg #[.int .u32 x,.int .u32 y]] w fun e w' => e = .returned (.bool true) ∧ Below w.heap.size w w':=by
 have HB:=zh (zqaa (zqab w (SchO D I N V)) (zqab (w.alloc (SchO D I N V)) (.cells #[.int .u32 x,.int .u32 y] 56)));have HX:=zh ((zqau w D I N V).below (zqab (w.alloc (SchO D I N V)) (.cells #[.int .u32 x,.int .u32 y] 56)));have HY:=zh (show Box2S ((w.alloc (SchO D I N V)).alloc (.cells #[.int .u32 x,.int .u32 y] 56)) (w.heap.size + 1) x y from by
  have:=heap_alloc_new (w.alloc (SchO D I N V)) (.cells #[.int .u32 x,.int .u32 y] 56);rw [show (w.alloc (SchO D I N V)).heap.size = w.heap.size + 1 by simp] at this
  exact this)
 have HA:=zh (fun w1 (hb:Below w.heap.size w w1) => zqoc w1 (hT.call hb) (hT2.call hb))
 have HSl:=zh (fun w1 (hb:Below w.heap.size w w1) => zqrv w1 D I N V S (h.below hb))
 have HFl:=zh (fun w1 (hb:Below w.heap.size w w1) => zxbn w1 v l (h'.below hb))
 have HFu:=zh (fun w1 (hb:Below w.heap.size w w1) => zxbq w1 D I N V S (h.below hb) (by obtain ⟨-,-,-,-,h5,-⟩:=h.d; exact h5))
 have HPF:=zh (fun w1 m (hb:Below w.heap.size w w1) (m0:0 ≤ m) (m1:m ≤ 4294967295) => (zqt9 w1 D I N V v S m l (h.below hb) hw (h'.below hb) hf (hT.call hb) (hT2.call hb) m0 m1).mono fun e w' hh => RollP.lis hh)
 have HPR:=zh (fun w1 u a b (g:List Ce) (hb:Below w.heap.size w w1) (h1:Cells w1 u g) (h2:∀ c ∈ g,Sv 1 c) (h3:g.length ≤ 200) (a0:0 ≤ a) (a1:a ≤ 4294967295) (b0:0 ≤ b) (b1:b ≤ 4294967295) => (zquc w1 D I N V u S a b g (h.below hb) hw h1 h2 (by omega) (hT.call hb) a0 a1 b0 b1).mono fun e w' hh => RollP.lis hh)
 have HF:=zh hf;have HXY:=zh (And.intro hx hy);obtain ⟨⟨a1,c1,rfl⟩,⟨a2,c2,rfl⟩,⟨a3,c3,rfl⟩,a4,c4,rfl⟩:=h.slices;obtain ⟨p,cap,rfl⟩:=h'.len;clear h h' hw hf hT hT2 hx hy;go_enter Tryz.func8,Tryz.ntmps8;obtain ⟨x0,x1,x2,x3⟩:=HX.out.reads;go_wp2_with fail;refine (HSl.out _ HB.out).mono ?_; rintro e w1 ⟨⟨bb,rfl⟩,hb⟩;have HB1:=zh (zqaa HB.out hb);have HX1:=zh (HX.out.below hb);have HY1:=zh (HY.out.below hb);clear hb x0 x1 x2 x3 HX HB HSl HY;cases bb with
 | false =>
  clear HFl HFu HPF HPR;go_wp2_with fail;refine (HA.out _ HB1.out).mono ?_; rintro e wA ⟨rfl,hbA⟩;have HBA:=zh (zqaa HB1.out hbA);clear hbA;go_wp2_with fail;go_ret;exact ⟨rfl,HBA.out⟩
 | true =>
 by_cases hl:200 < l.length
 ·have hl':(200:Int) < (l.length:Int):=by omega
  clear HFl HFu HPF HPR;go_wp2_with fail;refine (HA.out _ HB1.out).mono ?_; rintro e wA ⟨rfl,hbA⟩;have HBA:=zh (zqaa HB1.out hbA);clear hbA;go_wp2_with fail;go_ret;exact ⟨rfl,HBA.out⟩
 have hl':¬ (200:Int) < (l.length:Int):=by omega
 go_wp2_with fail;refine (HFl.out _ HB1.out).mono ?_; rintro e w2 ⟨⟨bb,rfl⟩,rfl⟩;clear HFl;cases bb with
 | false =>
  clear HFu HPF HPR;go_wp2_with fail;refine (HA.out _ HB1.out).mono ?_; rintro e wA ⟨rfl,hbA⟩;have HBA:=zh (zqaa HB1.out hbA);clear hbA;go_wp2_with fail;go_ret;exact ⟨rfl,HBA.out⟩
 | true =>
 obtain ⟨x0,x1,x2,x3⟩:=HX1.out.reads;go_wp2_with fail;refine (HFu.out _ HB1.out).mono ?_; rintro e w3 ⟨⟨m,rfl,m0,m1⟩,hb⟩;have HB3:=zh (zqaa HB1.out hb);have HX3:=zh (HX1.out.below hb);have HY3:=zh (HY1.out.below hb);clear hb x0 x1 x2 x3 HB1 HX1 HY1 HFu;have ab:=zxa7 HXY.out.1.1 HXY.out.1.2 m0 m1;have hsa:subM (bits .and .u32 x m) m = true:=(zqg8 ab.1 ab.2.1).2 fun k hk => by rw [ab.2.2] at hk; simp at hk; exact hk.2
 generalize hA:bits .and .u32 x m = A at *;have bc:=zxa7 ab.1 ab.2.1 HXY.out.2.1 HXY.out.2.2;have hsb:subM (bits .and .u32 A y) A = true:=(zqg8 bc.1 bc.2.1).2 fun k hk => by rw [bc.2.2] at hk; simp at hk; exact hk.1
 generalize hB:bits .and .u32 A y = B at *;have HG:=zh (And.intro hA hB);have hZ:=fun he h2 => zxbz (S:=S) HF.out m0 ab.1 ab.2.1 bc.1 bc.2.1 hsa hsb he h2
 have HZs:=zh hZ;have HP0:=zh (fun w1 (hb:Below w.heap.size w w1) => HPF.out w1 m hb m0 m1)
 have HPD:=zh (fun w1 (hb:Below w.heap.size w w1) => HPF.out w1 B hb bc.1 bc.2.1)
 have HRX:=zh (fun he h2 w1 u (hb:Below w.heap.size w w1) (h1:Cells w1 u (foldE S m l).2) => HPR.out w1 u m A _ hb h1 (hZ he h2).2.2.2.1 (hZ he h2).2.2.2.2.1 m0 m1 ab.1 ab.2.1)
 have HRZ:=zh (fun he h2 w1 u (hb:Below w.heap.size w w1) (h1:Cells w1 u (foldE S m l).2) => HPR.out w1 u m B _ hb h1 (hZ he h2).2.2.2.1 (hZ he h2).2.2.2.2.1 m0 m1 bc.1 bc.2.1)
 have hsx:∀ he h2,(∀ c ∈ (rollE S m A (foldE S m l).2).2,Sv 1 c) ∧ (rollE S m A (foldE S m l).2).2.length ≤ 200:=fun he h2 => by
  by_cases q:(rollE S m A (foldE S m l).2).1 = 0
  ·exact (hZ he h2).2.2.2.2.2 q
  ·rw [zxa6 q];exact ⟨(fun c hc => nomatch hc),Nat.zero_le _⟩
 have HRY:=zh (fun he h2 w1 u (hb:Below w.heap.size w w1) (h1:Cells w1 u (rollE S m A (foldE S m l).2).2) => HPR.out w1 u A B _ hb h1 (hsx he h2).1 (hsx he h2).2 ab.1 ab.2.1 bc.1 bc.2.1)
 have HS1:=zh (fun he h2 (hx:(rollE S m A (foldE S m l).2).1 = 0) w1 u u' (h1:Cells w1 u (rollE S A B (rollE S m A (foldE S m l).2).2).2) (h2':Cells w1 u' (rollE S m B (foldE S m l).2).2) => show Calls Tryz.prog 24 #[u,u'] w1 fun e w' => e = .returned (.bool true) ∧ Below w1.heap.size w1 w' from by
  have h3:=zxam w1 u u' _ _ h1 h2' (zxa0 (hsx he h2).1 (by have:=(hsx he h2).2; omega) ab.1 bc.1 bc.2.1) (zxa0 (hZ he h2).2.2.2.1 (by have:=(hZ he h2).2.2.2.2.1; omega) m0 bc.1 bc.2.1)
  rw [((hZ he h2).2.2.1 hx).2] at h3;exact h3)
 have HS2:=zh (fun he h2 w1 u u' (h1:Cells w1 u (rollE S m B (foldE S m l).2).2) (h2':Cells w1 u' (foldE S B l).2) => show Calls Tryz.prog 24 #[u,u'] w1 fun e w' => e = .returned (.bool true) ∧ Below w1.heap.size w1 w' from by
  have h3:=zxam w1 u u' _ _ h1 h2' (zxa0 (hZ he h2).2.2.2.1 (by have:=(hZ he h2).2.2.2.2.1; omega) m0 bc.1 bc.2.1) (zxaw HF.out)
  rw [(hZ he h2).2.1] at h3;exact h3)
 have HQ:=zh (fun he h2 => And.intro (hZ he h2).1 (fun (hx:(rollE S m A (foldE S m l).2).1 = 0) => ((hZ he h2).2.2.1 hx).1))
 clear hZ HZs hsx HPF HPR HF HXY m0 m1 ab bc hsa hsb hA hB;generalize rollE S A B (rollE S m A (foldE S m l).2).2 = RY at *;generalize rollE S m A (foldE S m l).2 = RX at *;generalize rollE S m B (foldE S m l).2 = RZ at *;generalize foldE S m l = R0 at *;generalize foldE S B l = RD at *;have hA:=HG.out.1;have hB:=HG.out.2;obtain ⟨x0,x1,x2,x3⟩:=HX3.out.reads;obtain ⟨y0,y1⟩:=HY3.out.reads;go_wp2_with fail;clear hA hB HG;refine (HP0.out _ HB3.out).mono ?_; rintro e w4 ⟨ra,rn,rc,rfl,hn,hc,hb⟩;have HB4:=zh (zqaa HB3.out hb);have HX4:=zh (HX3.out.below hb);have HC4:=zh hc;clear hb hc hn HP0 HB3 HX3 HY3 x0 x1 x2 x3 y0 y1;obtain ⟨x0,x1,x2,x3⟩:=HX4.out.reads;go_wp2_with fail;refine (HPD.out _ HB4.out).mono ?_; rintro e w5 ⟨da,dn,dc,rfl,hn,hc,hb⟩;have HB5:=zh (zqaa HB4.out hb);have HX5:=zh (HX4.out.below hb);have HC5:=zh (HC4.out.below hb);have HD5:=zh hc;clear hb hc hn HPD HB4 HX4 HC4 x0 x1 x2 x3
 by_cases he:R0.1 = 0
 rotate_left
 ·have he':((R0.1:Int) != 0) = true:=by rw [bne_iff_ne]; omega
  clear he HRX HRZ HRY HS1 HS2 HQ HC5 HD5 HX5;go_wp2_with fail;refine (HA.out _ HB5.out).mono ?_; rintro e wA ⟨rfl,hbA⟩;have HBA:=zh (zqaa HB5.out hbA);clear hbA;go_wp2_with fail;go_ret;exact ⟨rfl,HBA.out⟩
 have he0:((R0.1:Int) != 0) = false:=by rw [he]; rfl
 by_cases h2:RD.1 = 0
 rotate_left
 ·have he':((RD.1:Int) != 0) = true:=by rw [bne_iff_ne]; omega
  clear he h2 HRX HRZ HRY HS1 HS2 HQ HC5 HD5 HX5;go_wp2_with fail;refine (HA.out _ HB5.out).mono ?_; rintro e wA ⟨rfl,hbA⟩;have HBA:=zh (zqaa HB5.out hbA);clear hbA;go_wp2_with fail;go_ret;exact ⟨rfl,HBA.out⟩
 have hd0:((RD.1:Int) != 0) = false:=by rw [h2]; rfl
 have HX':=zh (HRX.out he h2);have HZ':=zh (HRZ.out he h2);have HY':=zh (HRY.out he h2);have HSy:=zh (fun hx => HS1.out he h2 hx)
 have HSz:=zh (HS2.out he h2);have HQ':=zh (HQ.out he h2);clear he h2 HRX HRZ HRY HS1 HS2 HQ;obtain ⟨x0,x1,x2,x3⟩:=HX5.out.reads;go_wp2_with fail;clear he0 hd0;refine (HX'.out _ _ HB5.out HC5.out).mono ?_; rintro e w6 ⟨xa,xn,xc,rfl,hn,hc,hb⟩;have HB6:=zh (zqaa HB5.out hb);have HX6:=zh (HX5.out.below hb);have HC6:=zh (HC5.out.below hb);have HD6:=zh (HD5.out.below hb);have HE6:=zh hc;clear hb hc hn HX' HB5 HX5 HC5 HD5 x0 x1 x2 x3;obtain ⟨x0,x1,x2,x3⟩:=HX6.out.reads;go_wp2_with fail;refine (HY'.out _ _ HB6.out HE6.out).mono ?_; rintro e w7 ⟨ya,yn,yc,rfl,hn,hc,hb⟩;have HB7:=zh (zqaa HB6.out hb);have HX7:=zh (HX6.out.below hb);have HC7:=zh (HC6.out.below hb);have HD7:=zh (HD6.out.below hb);have HE7:=zh hc;clear hb hc hn HY' HB6 HX6 HC6 HD6 HE6 x0 x1 x2 x3;obtain ⟨x0,x1,x2,x3⟩:=HX7.out.reads;go_wp2_with fail;refine (HZ'.out _ _ HB7.out HC7.out).mono ?_; rintro e w8 ⟨za,zn,zc,rfl,hn,hc,hb⟩;have HB8:=zh (zqaa HB7.out hb);have HD8:=zh (HD7.out.below hb);have HE8:=zh (HE7.out.below hb);have HG8:=zh hc;clear hb hc hn HZ' HB7 HX7 HC7 HD7 HE7 x0 x1 x2 x3;have hz0:((RZ.1:Int) == 0) = true:=by rw [HQ'.out.1]; rfl
 by_cases hx:RX.1 = 0
 ·have hx0:((RX.1:Int) != 0) = false:=by rw [hx]; rfl
  have hy0:((RY.1:Int) == 0) = true:=by rw [HQ'.out.2 hx]; rfl
  have HSv:=zh (HSy.out hx);clear hx HSy HQ';go_wp2_with fail;refine (HSv.out _ _ _ HE8.out HG8.out).mono ?_; rintro e w9 ⟨rfl,hb⟩;have HB9:=zh (zqaa HB8.out hb);have HD9:=zh (HD8.out.below hb);have HG9:=zh (HG8.out.below hb);clear hb HSv HB8 HD8 HE8 HG8;go_wp2_with fail;refine (HSz.out _ _ _ HG9.out HD9.out).mono ?_; rintro e w10 ⟨rfl,hb⟩;have HB10:=zh (zqaa HB9.out hb);clear hb HSz HB9 HD9 HG9;go_wp2_with fail;refine (HA.out _ HB10.out).mono ?_; rintro e wA ⟨rfl,hbA⟩;have HBA:=zh (zqaa HB10.out hbA);clear hbA;go_wp2_with fail;go_ret;exact ⟨rfl,HBA.out⟩
 ·have hx0:((RX.1:Int) != 0) = true:=by rw [bne_iff_ne]; omega
  clear hx HSy HQ';go_wp2_with fail;refine (HSz.out _ _ _ HG8.out HD8.out).mono ?_; rintro e w10 ⟨rfl,hb⟩;have HB10:=zh (zqaa HB8.out hb);clear hb HSz HB8 HD8 HG8 HE8;go_wp2_with fail;refine (HA.out _ HB10.out).mono ?_; rintro e wA ⟨rfl,hbA⟩;have HBA:=zh (zqaa HB10.out hbA);clear hbA;go_wp2_with fail;go_ret;exact ⟨rfl,HBA.out⟩
set_option maxRecDepth 100000 in
theorem lifted (os:Os) (started:os.Started) (H:Type) (enc:TypeId × Value → H) :
  ReturnsInHanded {} Tryz.checked os 8 .any (fun w args => (Rows.cellsTwiceSpec.pre enc Tryz.prog Tryz.f8 [] false w args ∧ laidMetH Tryz.prog laid3 w) ∧ sizedMet enc Tryz.prog Tryz.f8 (OpenSpec.ofChange Rows.cellsTwiceSpec) false w args)
   (Rows.cellsTwiceSpec.post enc Tryz.prog Tryz.f8 false true false false):=by
 refine returnsInHanded_of_change_and (C:=Tryz.checked) (X:=fun w _ => laidMetH Tryz.prog laid3 w) (fun _ _ _ hh h => h.of_heap hh) own2 started (by kernel_rfl) Tryz.func8
  (ChangeSpec.witness_shaped (enc:=enc) (C:=Tryz.checked) (os:=os) (X:=fun w _ => laidMetH Tryz.prog laid3 w) false (World.doorLaid Tryz.prog 800 os) #[.agg #[.slice none 0 0,.slice none 0 0,.slice none 0 0,.slice none 0 0],.slice none 0 0,.agg #[.int .u32 0,.int .u32 0]] 8 rfl (World.shaped_of_RefB (by kernel_rfl) (by kernel_rfl)) (by kernel_rfl) (by kernel_rfl) (by kernel_rfl) (zqsp os _)) ?_
 intro W base args ds gs before hval0 hW _ _ hL _;have hTab:=zqzn hL;have hTab64:=zqu2 hL;have hval:∀ (j:Nat) t v,Tryz.f8.params[j]? = some t → args[j]? = some v → Value.okWide Tryz.prog W .any base t v:=hval0
 have hW':=hW;obtain ⟨p,q,hA0,hV,rfl,hfz,hnd⟩:=hW;have hA:DataW.TrodAll enc Tryz.prog W 0 (fun _ => true) true Tryz.f8.params.toList args.toList ds p:=hA0
 rw [Tryz.params8] at hA hval;obtain ⟨v0,vs0,d0,ds0,p0,q0,hargs,rfl,rfl,h0,r0⟩:=trodAll_cons hA;obtain ⟨v1,vs1,d1,ds1,p1,q1,rfl,rfl,rfl,h1,r1⟩:=trodAll_cons r0;obtain ⟨v2,vs2,d2,ds2,p2,q2,rfl,rfl,rfl,h2,r2⟩:=trodAll_cons r1;obtain ⟨rfl,rfl,rfl⟩:=trodAll_nil r2;obtain rfl:args = #[v0,v1,v2]:=by cases args; simp_all
 obtain ⟨rfl,rfl⟩:=trodVars_none hV;have k0:=h0;have lt0:∀ x ∈ p0,x.block < W.heap.size:=by obtain ⟨m,hm⟩:=k0; exact DataW.trod_lt m _ _ _ hm
 obtain ⟨D0,I0,N0,V0,S0,rfl,s0,w0⟩:=zquu (hval 0 26 v0 rfl rfl) h0;have k1:=h1;have lt1:∀ x ∈ p1,x.block < W.heap.size:=by obtain ⟨m,hm⟩:=k1; exact DataW.trod_lt m _ _ _ hm
 obtain ⟨a1,len1,cap1,rfl⟩:=okWide_slice Tryz.underlying47 (hval 1 47 v1 rfl rfl);obtain ⟨l1,s1,w1⟩:=zxb2 h1 ⟨_,_,_,rfl⟩;have k2:=h2;have lt2:∀ x ∈ p2,x.block < W.heap.size:=by obtain ⟨m,hm⟩:=k2; exact DataW.trod_lt m _ _ _ hm
 obtain ⟨x2,y2,rfl,e2,f2⟩:=zxb7 (hval 2 56 v2 rfl rfl) h2;clear hA0 hval0;refine (walk D0 I0 N0 V0 S0 (.slice a1 len1 cap1) l1 x2 y2 W s0 w0 s1 w1 e2 f2 hTab hTab64).mono fun e W' ⟨he,bel⟩ => ?_
 subst he;exact ⟨_,rfl,_,_,_,[],_,[],hW',trodAll_mk1 (shut_bool Tryz.underlying4 _),(trodAll_cons_mk (Below.trod laidOut2 (by kernel_rfl) (of_decide_eq_true (by kernel_rfl)) k0 bel lt0) (trodAll_cons_mk (Below.trod laidOut2 (by kernel_rfl) (of_decide_eq_true (by kernel_rfl)) k1 bel lt1) (trodAll_cons_mk (Below.trod laidOut2 (by kernel_rfl) (of_decide_eq_true (by kernel_rfl)) k2 bel lt2) trodAll_mk0))),rfl,bel.frame _,fun h => by cases h⟩
theorem over:Rows.cellsTwiceRow.holds Tryz.pinned (OpenSpec.ofChange Rows.cellsTwiceSpec) :=
 OpenClaim.holds_of_wide 8 Tryz.f8 rfl rfl rfl rfl rfl rfl rfl ⟨rfl,rfl,rfl,rfl,rfl⟩ rfl rfl rfl rfl rfl (by kernel_rfl) Tryz.func8 (by kernel_rfl)
  (of_decide_eq_true (by kernel_rfl)) (by unfold Func.isWrapper; first | (rw [if_pos (by decide +kernel)]; kernel_rfl) | (rw [if_neg (by decide +kernel)]; exact ⟨rfl,rfl⟩))
  (fun os started H enc _ => lifted os started H enc)
theorem row_holds:Rows.CellsTwiceSaid:=over
end Go.Proofs.YtmnbljijnbhghaaGreatDoor.cellsTwice
namespace Go.Proofs.YtmnbljijnbhghaaGreatDoor
theorem cellsTwice_holds:Rows.CellsTwiceCardSaid :=
 Claim7.holds_tied_plain_at .later [] [.data,.data] true _ false
  cellsTwice.row_holds (fun _ h => by cases h) (by kernel_rfl) (fun _ h => by cases h) cellsTwice_row_tie rfl ⟨rfl,rfl⟩ (by kernel_rfl) rfl
  (fun f fn hf hfn => by
   obtain rfl : f = 8 := Option.some.inj ((show Tryz.prog.funcNamed "bushel/bushellaw15.CellsTwice" = some 8 by kernel_rfl).symm.trans hf) |>.symm
   obtain rfl:fn = Tryz.f8:=(Option.some.inj (Tryz.func8.symm.trans hfn)).symm;exact ⟨by kernel_rfl,fun j t ht => by
    rw [Tryz.params8] at ht;have hm:t ∈ [26,47,56]:=by simpa using Array.mem_of_getElem? ht
    have hall:([26,47,56].all fun u => !Tryz.prog.wantsStandIn u) = true:=by kernel_rfl
    exact (show Tryz.prog.wantsStandIn t = false by simpa using List.all_eq_true.1 hall t hm)⟩)
  (by kernel_rfl)
#print axioms cellsTwice_holds
end Go.Proofs.YtmnbljijnbhghaaGreatDoor
