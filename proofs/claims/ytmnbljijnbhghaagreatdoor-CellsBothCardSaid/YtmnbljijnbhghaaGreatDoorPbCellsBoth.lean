/- Layer 15: CellsBoth: what is merged and rolled up is what it is rolled up and merged: any schema, any set, any two lists; no condition. -/
import Derived.SevenTiedAt
import Derived.BigQuiet
import Derived.Deep.QuietTactic
import Derived.Lib.AppendZeros
import Derived.Deep.RegionHeld3
import Derived.WalkKit
import Derived.Maps.OwnSet
import Derived.Lib.Hide
import Derived.Below
import Derived.OpenShut
import Derived.Deep.Draws
import Derived.Deep.CutBlock
import Derived.WalkSmall
import Derived.SliceStrings
import Derived.Laws.FloatArith
import Derived.WalkLawsBesides
import Derived.Laws.Externs
import Derived.Laws.BitsAllLaws
import Derived.Shelf.Spec.TrailingZeros
import Derived.Laws.Bits64b
import Derived.Lib.BitFns
import Derived.Lib.Small
import Derived.Lib.Strings
import Derived.Lib.Slices
import Derived.Lib.Walk
import Derived.WalkSpells
import Derived.OwnWalk
import Derived.Laws.Bits64
import Derived.Deep.DeepCutAuto
import Derived.Deep.RegionLawGrows
import Derived.Lib.ItoaNum
import Derived.Deep.AppendLies
import Derived.Deep.LoopGhost
import Derived.RegionTactic
import Derived.ChangeAlike
import Derived.Laws.IdiomStrings
import Derived.ProofKit
import Derived.LaidMore
import Derived.Stop.Joined
import Derived.Lib.LaidTab
import Derived.Laws.BytesArg
import Derived.Deep.RegionLaw
import Derived.Outline
import Derived.Deep.RegionWith
import Derived.ChangeSlices
import Derived.Deep.RegionHeld
import Derived.Deep.DrawnRows
import Derived.Deep.CutRange
import Derived.Deep.Slices
import Derived.Deep.Fields
import Derived.ChangeSame
import Derived.Lib.SmallJoins
import Derived.Lib.Bytealg
import Derived.Lib.ConvBytes
import Derived.Laws.CopyRow
import Derived.Laws.IdiomCopy
import Derived.Laws.OwnMore
import Derived.Laws.MakeOwn
import Derived.Maps.Ext
import Derived.Maps.RangeWalk
import Derived.Sort.OwnSorted
import Derived.Shelf.SlSortCmp.WholeK
import Derived.Shelf.SlSortCmp.NoneTotal
import Derived.Test.YtmnbljijnbhghaaGreatDoorRows
import Derived.Test.YtmnbljijnbhghaaGreatDoorCards
import Derived.Test.YtmnbljijnbhghaaGreatDoorTie
import Derived.Test.YtmnbljijnbhghaaGreatDoorProg
import Derived.Test.YtmnbljijnbhghaaGreatDoorPb01
import Derived.Test.YtmnbljijnbhghaaGreatDoorPb02
import Derived.Test.YtmnbljijnbhghaaGreatDoorPb03
import Derived.Test.YtmnbljijnbhghaaGreatDoorPt01
import Derived.Test.YtmnbljijnbhghaaGreatDoorPt02
import Derived.Test.YtmnbljijnbhghaaGreatDoorPt03
import Derived.Test.YtmnbljijnbhghaaGreatDoorPt04
import Derived.Test.YtmnbljijnbhghaaGreatDoorPt05
import Derived.Test.YtmnbljijnbhghaaGreatDoorPt06
import Derived.Test.YtmnbljijnbhghaaGreatDoorPt07
import Derived.Test.YtmnbljijnbhghaaGreatDoorPt08
import Derived.Test.YtmnbljijnbhghaaGreatDoorPt09
import Derived.Test.YtmnbljijnbhghaaGreatDoorPt10
import Derived.Test.YtmnbljijnbhghaaGreatDoorPt11
import Derived.Test.YtmnbljijnbhghaaGreatDoorPt12
import Derived.Test.YtmnbljijnbhghaaGreatDoorPt13
import Derived.Test.YtmnbljijnbhghaaGreatDoorPt14
import Derived.Test.YtmnbljijnbhghaaGreatDoorPt15
import Derived.Test.YtmnbljijnbhghaaGreatDoorPt16
import Derived.Test.YtmnbljijnbhghaaGreatDoorPt17
import Derived.Test.YtmnbljijnbhghaaGreatDoorPt18
import Derived.Test.YtmnbljijnbhghaaGreatDoorPt19
import Derived.Test.YtmnbljijnbhghaaGreatDoorPt20
import Derived.Test.YtmnbljijnbhghaaGreatDoorPt21
import Derived.Test.YtmnbljijnbhghaaGreatDoorPt22
import Derived.Test.YtmnbljijnbhghaaGreatDoorPt23
import Derived.Test.YtmnbljijnbhghaaGreatDoorPt24
import Derived.Test.YtmnbljijnbhghaaGreatDoorPt25
import Derived.Test.YtmnbljijnbhghaaGreatDoorPt26
import Derived.Test.YtmnbljijnbhghaaGreatDoorPt27
import Derived.Test.YtmnbljijnbhghaaGreatDoorPt28
import Derived.Test.YtmnbljijnbhghaaGreatDoorPt29
import Derived.Test.YtmnbljijnbhghaaGreatDoorPt30
import Derived.Test.YtmnbljijnbhghaaGreatDoorPt31
import Derived.Test.YtmnbljijnbhghaaGreatDoorPt32
import Derived.Test.YtmnbljijnbhghaaGreatDoorPt33
namespace Go.Proofs.YtmnbljijnbhghaaGreatDoor.cellsBoth
set_option maxRecDepth 100000
open Go.ChangeShapes Go.WideShapes Go.ChangeAt Go.RowKit
set_option linter.unusedVariables false
set_option maxHeartbeats 16000000 in
theorem walk (D I N V:Value) (S:Sc) (t:Int) (u:Value) (a:List Ce) (v:Value) (b:List Ce) (w:World) (h:Sch4 w D I N V S) (hw:SWf S) (ht:0 ≤ t ∧ t ≤ 4294967295) (ha:Cells w u a) (wa:LsW a) (hb:Cells w v b) (wb:LsW b) (hT:Tab w) (hT2:Tab64 w) :
  Calls Tryz.prog 9 #[SchV D I N V,.int .u32 t,.agg #[u,v]] w fun e w' => e = .returned (.bool true) ∧ Below w.heap.size w w':=by
 have HB:=zh (zqaa (zqab w (SchO D I N V)) (zqab (w.alloc (SchO D I N V)) (.cells #[u,v] 63)));have HX:=zh ((zqau w D I N V).below (zqab (w.alloc (SchO D I N V)) (.cells #[u,v] 63)));have HY:=zh (show Box2L ((w.alloc (SchO D I N V)).alloc (.cells #[u,v] 63)) (w.heap.size + 1) u v from by
  have:=heap_alloc_new (w.alloc (SchO D I N V)) (.cells #[u,v] 63);rw [show (w.alloc (SchO D I N V)).heap.size = w.heap.size + 1 by simp] at this
  exact this)
 have HA:=zh (fun w1 (hb:Below w.heap.size w w1) => zqoc w1 (hT.call hb) (hT2.call hb))
 have HSl:=zh (fun w1 (hb:Below w.heap.size w w1) => zqrv w1 D I N V S (h.below hb))
 have HLa:=zh (fun w1 (h1:Below w.heap.size w w1) => zqni w1 u a (ha.below h1))
 have HLb:=zh (fun w1 (h1:Below w.heap.size w w1) => zqni w1 v b (hb.below h1))
 have HFu:=zh (fun w1 (hb:Below w.heap.size w w1) => zxb1 w1 D I N V S (h.below hb) (by obtain ⟨-,-,-,-,h5,-⟩:=h.d; exact h5))
 have HMe:=zh (fun w1 u u' (a b:List Ce) (hb:Below w.heap.size w w1) (h1:Cells w1 u a) (h2:Cells w1 u' b) (s1:∀ c ∈ a,Sm c) (s2:∀ c ∈ b,Sm c) (hl:a.length + b.length ≤ 1000) => (zxb0 w1 u u' a b h1 h2 s1 s2 hl (hT.call hb)).mono fun e w' hh => MergeP.lis hh)
 have HPR:=zh (fun w1 u a b (g:List Ce) (hb:Below w.heap.size w w1) (h1:Cells w1 u g) (h2:∀ c ∈ g,Sv 1 c) (h3:g.length ≤ 200) (a0:0 ≤ a) (a1:a ≤ 4294967295) (b0:0 ≤ b) (b1:b ≤ 4294967295) => (zquc w1 D I N V u S a b g (h.below hb) hw h1 h2 (by omega) (hT.call hb) a0 a1 b0 b1).mono fun e w' hh => RollP.lis hh)
 have HPN:=zh (fun w1 u a b (g:List Ce) (hb:Below w.heap.size w w1) (h1:Cells w1 u g) (h2:LsW g) (a0:0 ≤ a) (a1:a ≤ 4294967295) (hr:¬ rightL S a g = true) => (zxbp w1 D I N V u S a b g (h.below hb) hw h1 h2 a0 a1 hr).mono fun e w' hh => RollP.lis hh)
 have HAB:=zh (And.intro ha hb);have HWW:=zh (And.intro wa wb);have HT:=zh ht;obtain ⟨⟨a1,c1,rfl⟩,⟨a2,c2,rfl⟩,⟨a3,c3,rfl⟩,a4,c4,rfl⟩:=h.slices;obtain ⟨p,cp,rfl,-⟩:=id ha;obtain ⟨q,cq,rfl,-⟩:=id hb;clear h hw ha hb wa wb hT hT2 ht;go_enter Tryz.func9,Tryz.ntmps9;obtain ⟨x0,x1,x2,x3⟩:=HX.out.reads;obtain ⟨y0,y1⟩:=HY.out.reads;go_upto_region 1 with fail;go_region;have HB0:=zh HB.out.drew;have HX0:=zh (HX.out.below (Below.refl _ _).drew);clear HB HX HY x0 x1 x2 x3 y0 y1;obtain ⟨x0,x1,x2,x3⟩:=HX0.out.reads;go_wp2_with fail;refine (HSl.out _ HB0.out).mono ?_; rintro e w1 ⟨⟨bb,rfl⟩,hb⟩;have HB1:=zh (zqaa HB0.out hb);have HX1:=zh (HX0.out.below hb);clear hb x0 x1 x2 x3 HX0 HB0 HSl;cases bb with
 | false =>
  clear HLa HLb HFu HMe HPR HPN HAB HWW;go_wp2_with fail;refine (HA.out _ HB1.out).mono ?_; rintro e wA ⟨rfl,hbA⟩;have HBA:=zh (zqaa HB1.out hbA);clear hbA;go_wp2_with fail;go_ret;exact ⟨rfl,HBA.out⟩
 | true =>
 go_wp2_with fail;refine (HLa.out _ HB1.out).mono ?_; rintro e w2 ⟨rfl,hb⟩;have HB2:=zh (zqaa HB1.out hb);have HX2:=zh (HX1.out.below hb);clear hb HX1 HB1 HLa
 by_cases la:lightL a = true
 rotate_left
 ·rw [eq_false_of_ne_true la];clear HLb HFu HMe HPR HPN HAB HWW la;go_wp2_with fail;refine (HA.out _ HB2.out).mono ?_; rintro e wA ⟨rfl,hbA⟩;have HBA:=zh (zqaa HB2.out hbA);clear hbA;go_wp2_with fail;go_ret;exact ⟨rfl,HBA.out⟩
 rw [la];have HSa:=zh (zxa8 la HWW.out.1);clear la;go_wp2_with fail;refine (HLb.out _ HB2.out).mono ?_; rintro e w3 ⟨rfl,hb⟩;have HB3:=zh (zqaa HB2.out hb);have HX3:=zh (HX2.out.below hb);clear hb HX2 HB2 HLb
 by_cases lb:lightL b = true
 rotate_left
 ·rw [eq_false_of_ne_true lb];clear HFu HMe HPR HPN HAB HWW HSa lb;go_wp2_with fail;refine (HA.out _ HB3.out).mono ?_; rintro e wA ⟨rfl,hbA⟩;have HBA:=zh (zqaa HB3.out hbA);clear hbA;go_wp2_with fail;go_ret;exact ⟨rfl,HBA.out⟩
 rw [lb];have HSb:=zh (zxa8 lb HWW.out.2);clear lb;obtain ⟨x0,x1,x2,x3⟩:=HX3.out.reads;go_wp2_with fail;refine (HFu.out _ HB3.out).mono ?_; rintro e w4 ⟨⟨m,rfl,m0,m1⟩,hb⟩;have HB4:=zh (zqaa HB3.out hb);have HX4:=zh (HX3.out.below hb);clear hb x0 x1 x2 x3 HB3 HX3 HFu HWW;have HM:=zh (fun w1 (hb:Below w.heap.size w w1) => HMe.out w1 _ _ a b hb (HAB.out.1.below hb) (HAB.out.2.below hb) (fun c hc => (HSa.out.2 c hc).sm) (fun c hc => (HSb.out.2 c hc).sm) (by have:=HSa.out.1; have:=HSb.out.1; omega))
 have HRX:=zh (fun w1 u (hb:Below w.heap.size w w1) (h1:Cells w1 u (mergeE a b).2) => show Calls Tryz.prog 27 #[SchV (.slice a1 S.ds.length c1) (.slice a2 S.is.length c2) (.slice a3 S.ns.length c3) (.slice a4 S.vs.length c4),.int .u32 m,.int .u32 t,u] w1 (LisP w1 (rollE S m t (mergeE a b).2)) from by
  have hs2:=zxa9 HSa.out.2 HSb.out.2;have hln:=zxax a b;have:=HSa.out.1;have:=HSb.out.1
  by_cases hr:rightL S m (mergeE a b).2 = true
  ·exact HPR.out w1 u m t _ hb h1 (fun c hc => zxbk (rights hr c hc) (hs2 c hc)) (by omega) m0 m1 HT.out.1 HT.out.2
  ·exact HPN.out w1 u m t _ hb h1 (fun c hc => (hs2 c hc).1) m0 m1 hr)
 have HRY:=zh (fun w1 (hb:Below w.heap.size w w1) => HPR.out w1 _ m t a hb (HAB.out.1.below hb) HSa.out.2 (by have:=HSa.out.1; omega) m0 m1 HT.out.1 HT.out.2)
 have HRZ:=zh (fun w1 (hb:Below w.heap.size w w1) => HPR.out w1 _ m t b hb (HAB.out.2.below hb) HSb.out.2 (by have:=HSb.out.1; omega) m0 m1 HT.out.1 HT.out.2)
 have HSY:=zh (show (∀ c ∈ (rollE S m t a).2,Sm c) ∧ ∀ c ∈ (rollE S m t b).2,Sm c from
  ⟨fun c hc => (zxah (S:=S) HSa.out.2 (by have:=HSa.out.1; omega) m0 HT.out.1 HT.out.2 c hc).1.sm,fun c hc => (zxah (S:=S) HSb.out.2 (by have:=HSb.out.1; omega) m0 HT.out.1 HT.out.2 c hc).1.sm⟩)
 have HZ:=zh (fun (he:(mergeE a b).1 = 0) (hx:(rollE S m t (mergeE a b).2).1 = 0) (hy:(rollE S m t a).1 = 0) (hz:(rollE S m t b).1 = 0) => And.intro (zxbc HSa.out.2 HSb.out.2 HSa.out.1 HSb.out.1 m0 HT.out.1 HT.out.2 he hx hy hz)
  (fun w1 u u' (hb:Below w.heap.size w w1) (h1:Cells w1 u (rollE S m t a).2) (h2:Cells w1 u' (rollE S m t b).2) => HMe.out w1 u u' _ _ hb h1 h2 HSY.out.1 HSY.out.2 (by
   have h3:=zxbc HSa.out.2 HSb.out.2 HSa.out.1 HSb.out.1 m0 HT.out.1 HT.out.2 he hx hy hz;have:=h3.1;have:=h3.2.1;omega)))
 clear HPR HPN HAB HSa HSb HT m0 m1 HMe HSY;generalize mergeE (rollE S m t a).2 (rollE S m t b).2 = RW at *;generalize rollE S m t (mergeE a b).2 = Rf at *;generalize rollE S m t a = Rg at *;generalize rollE S m t b = Rh at *;generalize mergeE a b = Re at *;go_wp2_with fail;refine (HM.out _ HB4.out).mono ?_; rintro e w5 ⟨ma,mn,mc,rfl,hn,hc,hb⟩;have HB5:=zh (zqaa HB4.out hb);have HX5:=zh (HX4.out.below hb);have HC5:=zh hc;clear hb hc hn HM HB4 HX4;obtain ⟨x0,x1,x2,x3⟩:=HX5.out.reads;go_wp2_with fail;refine (HRX.out _ _ HB5.out HC5.out).mono ?_; rintro e w6 ⟨xa,xn,xc,rfl,hn,hc,hb⟩;have HB6:=zh (zqaa HB5.out hb);have HX6:=zh (HX5.out.below hb);have HC6:=zh hc;clear hb hc hn HRX HB5 HX5 HC5 x0 x1 x2 x3;obtain ⟨x0,x1,x2,x3⟩:=HX6.out.reads;go_wp2_with fail;refine (HRY.out _ HB6.out).mono ?_; rintro e w7 ⟨ya,yn,yc,rfl,hn,hc,hb⟩;have HB7:=zh (zqaa HB6.out hb);have HX7:=zh (HX6.out.below hb);have HC7:=zh (HC6.out.below hb);have HD7:=zh hc;clear hb hc hn HRY HB6 HX6 HC6 x0 x1 x2 x3;obtain ⟨x0,x1,x2,x3⟩:=HX7.out.reads;go_wp2_with fail;refine (HRZ.out _ HB7.out).mono ?_; rintro e w9 ⟨za,zn,zc,rfl,hn,hc,hb⟩;have HB9:=zh (zqaa HB7.out hb);have HC9:=zh (HC7.out.below hb);have HD9:=zh (HD7.out.below hb);have HE9:=zh hc;clear hb hc hn HRZ HB7 HX7 HC7 HD7 x0 x1 x2 x3
 by_cases he:Re.1 = 0
 rotate_left
 ·have he':((Re.1:Int) != 0) = true:=by rw [bne_iff_ne]; omega
  clear he HZ HC9 HD9 HE9;go_wp2_with fail;refine (HA.out _ HB9.out).mono ?_; rintro e wA ⟨rfl,hbA⟩;have HBA:=zh (zqaa HB9.out hbA);clear hbA;go_wp2_with fail;go_ret;exact ⟨rfl,HBA.out⟩
 have qe:((Re.1:Int) != 0) = false:=by rw [he]; rfl
 have HZe:=zh (HZ.out he);clear he HZ
 by_cases hf:Rf.1 = 0
 rotate_left
 ·have he':((Rf.1:Int) != 0) = true:=by rw [bne_iff_ne]; omega
  clear hf HZe HC9 HD9 HE9;go_wp2_with fail;refine (HA.out _ HB9.out).mono ?_; rintro e wA ⟨rfl,hbA⟩;have HBA:=zh (zqaa HB9.out hbA);clear hbA;go_wp2_with fail;go_ret;exact ⟨rfl,HBA.out⟩
 have qf:((Rf.1:Int) != 0) = false:=by rw [hf]; rfl
 have HZf:=zh (HZe.out hf);clear hf HZe
 by_cases hg:Rg.1 = 0
 rotate_left
 ·have he':((Rg.1:Int) != 0) = true:=by rw [bne_iff_ne]; omega
  clear hg HZf HC9 HD9 HE9;go_wp2_with fail;refine (HA.out _ HB9.out).mono ?_; rintro e wA ⟨rfl,hbA⟩;have HBA:=zh (zqaa HB9.out hbA);clear hbA;go_wp2_with fail;go_ret;exact ⟨rfl,HBA.out⟩
 have qg:((Rg.1:Int) != 0) = false:=by rw [hg]; rfl
 have HZg:=zh (HZf.out hg);clear hg HZf
 by_cases hh:Rh.1 = 0
 rotate_left
 ·have he':((Rh.1:Int) != 0) = true:=by rw [bne_iff_ne]; omega
  clear hh HZg HC9 HD9 HE9;go_wp2_with fail;refine (HA.out _ HB9.out).mono ?_; rintro e wA ⟨rfl,hbA⟩;have HBA:=zh (zqaa HB9.out hbA);clear hbA;go_wp2_with fail;go_ret;exact ⟨rfl,HBA.out⟩
 have qh:((Rh.1:Int) != 0) = false:=by rw [hh]; rfl
 have HZh:=zh (HZg.out hh);clear hh HZg;go_wp2_with fail;clear qe qf qg qh;refine (HZh.out.2 _ _ _ HB9.out HD9.out HE9.out).mono ?_; rintro e w10 ⟨wa,wn,wc,rfl,hn,hc,hb⟩;have HB10:=zh (zqaa HB9.out hb);have HC10:=zh (HC9.out.below hb);have HG10:=zh hc;clear hb hc hn HB9 HC9 HD9 HE9
 by_cases hi:RW.1 = 0
 ·have qi:((RW.1:Int) != 0) = false:=by rw [hi]; rfl
  obtain ⟨z1,z2⟩:=HZh.out.1.2.2.2 hi;have hS:=zxbq _ _ _ _ _ HC10.out HG10.out HZh.out.1.2.2.1 z2;rw [z1] at hS;have HS:=zh hS;clear hS z1 z2 hi HZh HC10 HG10;go_wp2_with fail;refine HS.out.mono ?_; rintro e w11 ⟨rfl,hb⟩;have HB11:=zh (zqaa HB10.out hb);clear hb HS HB10;go_wp2_with fail;refine (HA.out _ HB11.out).mono ?_; rintro e wA ⟨rfl,hbA⟩;have HBA:=zh (zqaa HB11.out hbA);clear hbA;go_wp2_with fail;go_ret;exact ⟨rfl,HBA.out⟩
 ·have qi:((RW.1:Int) != 0) = true:=by rw [bne_iff_ne]; omega
  clear hi HZh HC10 HG10;go_wp2_with fail;refine (HA.out _ HB10.out).mono ?_; rintro e wA ⟨rfl,hbA⟩;have HBA:=zh (zqaa HB10.out hbA);clear hbA;go_wp2_with fail;go_ret;exact ⟨rfl,HBA.out⟩
set_option maxRecDepth 100000 in
theorem lifted (os:Os) (started:os.Started) (H:Type) (enc:TypeId × Value → H) :
  ReturnsInHanded {} Tryz.checked os 9 .any (fun w args => (Rows.cellsBothSpec.pre enc Tryz.prog Tryz.f9 [] false w args ∧ laidMetH Tryz.prog laid3 w) ∧ sizedMet enc Tryz.prog Tryz.f9 (OpenSpec.ofChange Rows.cellsBothSpec) false w args)
   (Rows.cellsBothSpec.post enc Tryz.prog Tryz.f9 false true false false):=by
 refine returnsInHanded_of_change_and (C:=Tryz.checked) (X:=fun w _ => laidMetH Tryz.prog laid3 w) (fun _ _ _ hh h => h.of_heap hh) own2 started (by kernel_rfl) Tryz.func9
  (ChangeSpec.witness_shaped (enc:=enc) (C:=Tryz.checked) (os:=os) (X:=fun w _ => laidMetH Tryz.prog laid3 w) false (World.doorLaid Tryz.prog 800 os) #[.agg #[.slice none 0 0,.slice none 0 0,.slice none 0 0,.slice none 0 0],.int .u32 0,.agg #[.slice none 0 0,.slice none 0 0]] 8 rfl (World.shaped_of_RefB (by kernel_rfl) (by kernel_rfl)) (by kernel_rfl) (by kernel_rfl) (by kernel_rfl) (zqsp os _)) ?_
 intro W base args ds gs before hval0 hW _ _ hL _;have hTab:=zqzn hL;have hTab64:=zqu2 hL;have hval:∀ (j:Nat) t v,Tryz.f9.params[j]? = some t → args[j]? = some v → Value.okWide Tryz.prog W .any base t v:=hval0
 have hW':=hW;obtain ⟨p,q,hA0,hV,rfl,hfz,hnd⟩:=hW;have hA:DataW.TrodAll enc Tryz.prog W 0 (fun _ => true) true Tryz.f9.params.toList args.toList ds p:=hA0
 rw [Tryz.params9] at hA hval;obtain ⟨v0,vs0,d0,ds0,p0,q0,hargs,rfl,rfl,h0,r0⟩:=trodAll_cons hA;obtain ⟨v1,vs1,d1,ds1,p1,q1,rfl,rfl,rfl,h1,r1⟩:=trodAll_cons r0;obtain ⟨v2,vs2,d2,ds2,p2,q2,rfl,rfl,rfl,h2,r2⟩:=trodAll_cons r1;obtain ⟨rfl,rfl,rfl⟩:=trodAll_nil r2;obtain rfl:args = #[v0,v1,v2]:=by cases args; simp_all
 obtain ⟨rfl,rfl⟩:=trodVars_none hV;have k0:=h0;have lt0:∀ x ∈ p0,x.block < W.heap.size:=by obtain ⟨m,hm⟩:=k0; exact DataW.trod_lt m _ _ _ hm
 obtain ⟨D0,I0,N0,V0,S0,rfl,s0,w0⟩:=zquu (hval 0 26 v0 rfl rfl) h0;obtain ⟨a1,rfl,rfl,rfl,w1⟩:=open_int Tryz.underlying27 (hval 1 27 v1 rfl rfl) h1;have k2:=h2;have lt2:∀ x ∈ p2,x.block < W.heap.size:=by obtain ⟨m,hm⟩:=k2; exact DataW.trod_lt m _ _ _ hm
 obtain ⟨u2,t2,l2,m2,rfl,s2,w2,s'2,w'2⟩:=zxb7 (hval 2 63 v2 rfl rfl) h2;clear hA0 hval0;refine (walk D0 I0 N0 V0 S0 a1 u2 l2 t2 m2 W s0 w0 (bounds_u32 w1) s2 w2 s'2 w'2 hTab hTab64).mono fun e W' ⟨he,bel⟩ => ?_
 subst he;exact ⟨_,rfl,_,_,_,[],_,[],hW',trodAll_mk1 (shut_bool Tryz.underlying4 _),(trodAll_cons_mk (Below.trod laidOut2 (by kernel_rfl) (of_decide_eq_true (by kernel_rfl)) k0 bel lt0) (trodAll_cons_mk (shut_int Tryz.underlying27 w1) (trodAll_cons_mk (Below.trod laidOut2 (by kernel_rfl) (of_decide_eq_true (by kernel_rfl)) k2 bel lt2) trodAll_mk0))),rfl,bel.frame _,fun h => by cases h⟩
theorem over:Rows.cellsBothRow.holds Tryz.pinned (OpenSpec.ofChange Rows.cellsBothSpec) :=
 OpenClaim.holds_of_wide 9 Tryz.f9 rfl rfl rfl rfl rfl rfl rfl ⟨rfl,rfl,rfl,rfl,rfl⟩ rfl rfl rfl rfl rfl (by kernel_rfl) Tryz.func9 (by kernel_rfl)
  (of_decide_eq_true (by kernel_rfl)) (by unfold Func.isWrapper; first | (rw [if_pos (by decide +kernel)]; kernel_rfl) | (rw [if_neg (by decide +kernel)]; exact ⟨rfl,rfl⟩))
  (fun os started H enc _ => lifted os started H enc)
theorem row_holds:Rows.CellsBothSaid:=over
end Go.Proofs.YtmnbljijnbhghaaGreatDoor.cellsBoth
namespace Go.Proofs.YtmnbljijnbhghaaGreatDoor
theorem cellsBoth_holds:Rows.CellsBothCardSaid :=
 Claim7.holds_tied_plain_at .later [] [.data,.data] true _ false
  cellsBoth.row_holds (fun _ h => by cases h) (by kernel_rfl) (fun _ h => by cases h) cellsBoth_row_tie rfl ⟨rfl,rfl⟩ (by kernel_rfl) rfl
  (fun f fn hf hfn => by
   obtain rfl : f = 9 := Option.some.inj ((show Tryz.prog.funcNamed "bushel/bushellaw15.CellsBoth" = some 9 by kernel_rfl).symm.trans hf) |>.symm
   obtain rfl:fn = Tryz.f9:=(Option.some.inj (Tryz.func9.symm.trans hfn)).symm;exact ⟨by kernel_rfl,fun j t ht => by
    rw [Tryz.params9] at ht;have hm:t ∈ [26,27,63]:=by simpa using Array.mem_of_getElem? ht
    have hall:([26,27,63].all fun u => !Tryz.prog.wantsStandIn u) = true:=by kernel_rfl
    exact (show Tryz.prog.wantsStandIn t = false by simpa using List.all_eq_true.1 hall t hm)⟩)
  (by kernel_rfl)
#print axioms cellsBoth_holds
end Go.Proofs.YtmnbljijnbhghaaGreatDoor
