/- Layer 15: CellsParts: facts in two parts, folded and merged, are what they are folded at once, the later part ahead or behind: any schema, any facts, any cut; no condition. -/
import Derived.SevenTiedAt
import Derived.BigQuiet
import Derived.Deep.QuietTactic
import Derived.Lib.AppendZeros
import Derived.Deep.RegionHeld3
import Derived.WalkKit
import Derived.Maps.OwnSet
import Derived.Lib.Hide
import Derived.Below
import Derived.OpenShut
import Derived.Deep.Draws
import Derived.Deep.CutBlock
import Derived.WalkSmall
import Derived.SliceStrings
import Derived.Laws.FloatArith
import Derived.WalkLawsBesides
import Derived.Laws.Externs
import Derived.Laws.BitsAllLaws
import Derived.Shelf.Spec.TrailingZeros
import Derived.Laws.Bits64b
import Derived.Lib.BitFns
import Derived.Lib.Small
import Derived.Lib.Strings
import Derived.Lib.Slices
import Derived.Lib.Walk
import Derived.WalkSpells
import Derived.OwnWalk
import Derived.Laws.Bits64
import Derived.Deep.DeepCutAuto
import Derived.Deep.RegionLawGrows
import Derived.Lib.ItoaNum
import Derived.Deep.AppendLies
import Derived.Deep.LoopGhost
import Derived.RegionTactic
import Derived.ChangeAlike
import Derived.Laws.IdiomStrings
import Derived.ProofKit
import Derived.LaidMore
import Derived.Stop.Joined
import Derived.Lib.LaidTab
import Derived.Laws.BytesArg
import Derived.Deep.RegionLaw
import Derived.Outline
import Derived.Deep.RegionWith
import Derived.ChangeSlices
import Derived.Deep.RegionHeld
import Derived.Deep.DrawnRows
import Derived.Deep.CutRange
import Derived.Deep.Slices
import Derived.Deep.Fields
import Derived.ChangeSame
import Derived.Lib.SmallJoins
import Derived.Lib.Bytealg
import Derived.Lib.ConvBytes
import Derived.Laws.CopyRow
import Derived.Laws.IdiomCopy
import Derived.Laws.OwnMore
import Derived.Laws.MakeOwn
import Derived.Maps.Ext
import Derived.Maps.RangeWalk
import Derived.Sort.OwnSorted
import Derived.Shelf.SlSortCmp.WholeK
import Derived.Shelf.SlSortCmp.NoneTotal
import Derived.Test.YtmnbljijnbhghaaGreatDoorRows
import Derived.Test.YtmnbljijnbhghaaGreatDoorCards
import Derived.Test.YtmnbljijnbhghaaGreatDoorTie
import Derived.Test.YtmnbljijnbhghaaGreatDoorProg
import Derived.Test.YtmnbljijnbhghaaGreatDoorPp01
import Derived.Test.YtmnbljijnbhghaaGreatDoorPp02
import Derived.Test.YtmnbljijnbhghaaGreatDoorPp03
import Derived.Test.YtmnbljijnbhghaaGreatDoorPt01
import Derived.Test.YtmnbljijnbhghaaGreatDoorPt02
import Derived.Test.YtmnbljijnbhghaaGreatDoorPt03
import Derived.Test.YtmnbljijnbhghaaGreatDoorPt04
import Derived.Test.YtmnbljijnbhghaaGreatDoorPt05
import Derived.Test.YtmnbljijnbhghaaGreatDoorPt06
import Derived.Test.YtmnbljijnbhghaaGreatDoorPt07
import Derived.Test.YtmnbljijnbhghaaGreatDoorPt08
import Derived.Test.YtmnbljijnbhghaaGreatDoorPt09
import Derived.Test.YtmnbljijnbhghaaGreatDoorPt10
import Derived.Test.YtmnbljijnbhghaaGreatDoorPt11
import Derived.Test.YtmnbljijnbhghaaGreatDoorPt12
import Derived.Test.YtmnbljijnbhghaaGreatDoorPt13
import Derived.Test.YtmnbljijnbhghaaGreatDoorPt14
import Derived.Test.YtmnbljijnbhghaaGreatDoorPt15
import Derived.Test.YtmnbljijnbhghaaGreatDoorPt16
import Derived.Test.YtmnbljijnbhghaaGreatDoorPt17
import Derived.Test.YtmnbljijnbhghaaGreatDoorPt18
import Derived.Test.YtmnbljijnbhghaaGreatDoorPt19
import Derived.Test.YtmnbljijnbhghaaGreatDoorPt20
import Derived.Test.YtmnbljijnbhghaaGreatDoorPt21
import Derived.Test.YtmnbljijnbhghaaGreatDoorPt22
import Derived.Test.YtmnbljijnbhghaaGreatDoorPt23
import Derived.Test.YtmnbljijnbhghaaGreatDoorPt24
import Derived.Test.YtmnbljijnbhghaaGreatDoorPt25
import Derived.Test.YtmnbljijnbhghaaGreatDoorPt26
import Derived.Test.YtmnbljijnbhghaaGreatDoorPt27
import Derived.Test.YtmnbljijnbhghaaGreatDoorPt28
import Derived.Test.YtmnbljijnbhghaaGreatDoorPt29
import Derived.Test.YtmnbljijnbhghaaGreatDoorPt30
import Derived.Test.YtmnbljijnbhghaaGreatDoorPt31
import Derived.Test.YtmnbljijnbhghaaGreatDoorPt32
import Derived.Test.YtmnbljijnbhghaaGreatDoorPt33
namespace Go.Proofs.YtmnbljijnbhghaaGreatDoor.cellsParts
set_option maxRecDepth 100000
open Go.ChangeShapes Go.WideShapes Go.ChangeAt Go.RowKit
set_option linter.unusedVariables false
set_option maxHeartbeats 16000000 in
theorem walk (D I N V:Value) (S:Sc) (v:Value) (l:List Fa) (cut:Int) (w:World) (h:Sch4 w D I N V S) (hw:SWf S) (h':Facts w v l) (hf:∀ f ∈ l,FaWf f) (hcu:-9223372036854775808 ≤ cut ∧ cut ≤ 9223372036854775807) (hT:Tab w) (hT2:Tab64 w) :
  Calls Tryz.prog 7 #[SchV D I N V,v,.int .i64 cut] w fun e w' => e = .returned (.bool true) ∧ Below w.heap.size w w':=by
 have HB:=zh (zqab w (SchO D I N V));have HX:=zh (zqau w D I N V);have HA:=zh (fun w1 (hb:Below w.heap.size w w1) => zqoc w1 (hT.call hb) (hT2.call hb))
 have HSl:=zh (fun w1 (hb:Below w.heap.size w w1) => zqrv w1 D I N V S (h.below hb))
 have HFl:=zh (fun w1 (hb:Below w.heap.size w w1) => zxbt w1 v l (h'.below hb))
 have HFu:=zh (fun w1 (hb:Below w.heap.size w w1) => zxbz w1 D I N V S (h.below hb) (by obtain ⟨-,-,-,-,h5,-⟩:=h.d; exact h5))
 have HPF:=zh (fun w1 u g m (hb:Below w.heap.size w w1) (h1:Facts w u g) (h2:∀ f ∈ g,FaWf f) (m0:0 ≤ m) (m1:m ≤ 4294967295) => (zqt9 w1 D I N V u S m g (h.below hb) hw (h1.below hb) h2 (hT.call hb) (hT2.call hb) m0 m1).mono fun e w' hh => RollP.lis hh)
 have HMe:=zh (fun w1 u u' (a b:List Ce) (hb:Below w.heap.size w w1) (h1:Cells w1 u a) (h2:Cells w1 u' b) (s1:∀ c ∈ a,Sm c) (s2:∀ c ∈ b,Sm c) (hl:a.length + b.length ≤ 1000) => (zxbx w1 u u' a b h1 h2 s1 s2 hl (hT.call hb)).mono fun e w' hh => MergeP.lis hh)
 obtain ⟨⟨a1,c1,rfl⟩,⟨a2,c2,rfl⟩,⟨a3,c3,rfl⟩,a4,c4,rfl⟩:=h.slices;obtain ⟨p,cap,rfl⟩:=h'.len;have hlm:l.length ≤ 9223372036854775807:=by obtain ⟨-,-,-,-,h5,-⟩:=h'; exact h5
 obtain ⟨k,hkk,hk⟩:∃ k:Nat,min (max cut 0) (l.length:Int) = (k:Int) ∧ k ≤ l.length:=⟨(min (max cut 0) (l.length:Int)).toNat,by omega,by omega⟩
 obtain ⟨p1,q1,hs1,g1⟩:=zxbs (k:=k) h' hk;obtain ⟨p2,q2,hs2,g2⟩:=zxbr (k:=k) h' hk;have HH:=zh (And.intro h' (And.intro g1 g2));have HW:=zh (show (∀ f ∈ l,FaWf f) ∧ (∀ f ∈ l.take k,FaWf f) ∧ ∀ f ∈ l.drop k,FaWf f from ⟨hf,fun f h => hf f (List.mem_of_mem_take h),fun f h => hf f (List.mem_of_mem_drop h)⟩)
 have HK:=zh hkk;have H1:=zh hs1;have H2:=zh hs2;have hkL:0 ≤ (k:Int) ∧ (k:Int) ≤ (l.length:Int):=by omega
 clear h h' hw hf hT hT2 hs1 hs2 g1 g2 hkk hcu;go_enter Tryz.func7,Tryz.ntmps7;obtain ⟨x0,x1,x2,x3⟩:=HX.out.reads;go_wp2_with fail;refine (HSl.out _ HB.out).mono ?_; rintro e w1 ⟨⟨bb,rfl⟩,hb⟩;have HB1:=zh (zqaa HB.out hb);have HX1:=zh (HX.out.below hb);clear hb x0 x1 x2 x3 HX HB HSl;cases bb with
 | false =>
  clear HFl HFu HPF HMe HH HW HK H1 H2;go_wp2_with fail;refine (HA.out _ HB1.out).mono ?_; rintro e wA ⟨rfl,hbA⟩;have HBA:=zh (zqaa HB1.out hbA);clear hbA;go_wp2_with fail;go_ret;exact ⟨rfl,HBA.out⟩
 | true =>
 by_cases hl:200 < l.length
 ·have hl':(200:Int) < (l.length:Int):=by omega
  clear HFl HFu HPF HMe HH HW HK H1 H2;go_wp2_with fail;refine (HA.out _ HB1.out).mono ?_; rintro e wA ⟨rfl,hbA⟩;have HBA:=zh (zqaa HB1.out hbA);clear hbA;go_wp2_with fail;go_ret;exact ⟨rfl,HBA.out⟩
 have hl':¬ (200:Int) < (l.length:Int):=by omega
 go_wp2_with fail;refine (HFl.out _ HB1.out).mono ?_; rintro e w2 ⟨⟨bb,rfl⟩,rfl⟩;clear HFl;cases bb with
 | false =>
  clear HFu HPF HMe HH HW HK H1 H2;go_wp2_with fail;refine (HA.out _ HB1.out).mono ?_; rintro e wA ⟨rfl,hbA⟩;have HBA:=zh (zqaa HB1.out hbA);clear hbA;go_wp2_with fail;go_ret;exact ⟨rfl,HBA.out⟩
 | true =>
 obtain ⟨x0,x1,x2,x3⟩:=HX1.out.reads;go_wp2_with fail;refine (HFu.out _ HB1.out).mono ?_; rintro e w3 ⟨⟨m,rfl,m0,m1⟩,hb⟩;have HB3:=zh (zqaa HB1.out hb);have HX3:=zh (HX1.out.below hb);have HP0:=zh (fun w1 (hb:Below w.heap.size w w1) => HPF.out w1 _ _ m hb HH.out.1 HW.out.1 m0 m1)
 have HP1:=zh (fun w1 (hb:Below w.heap.size w w1) => HPF.out w1 _ _ m hb HH.out.2.1 HW.out.2.1 m0 m1)
 have HP2:=zh (fun w1 (hb:Below w.heap.size w w1) => HPF.out w1 _ _ m hb HH.out.2.2 HW.out.2.2 m0 m1)
 have HM1:=zh (fun w1 u u' (hb:Below w.heap.size w w1) (h1:Cells w1 u (foldE S m (l.take k)).2) (h2:Cells w1 u' (foldE S m (l.drop k)).2) => HMe.out w1 u u' _ _ hb h1 h2 (zxao HW.out.2.1) (zxao HW.out.2.2) (by have:=zxaj (S:=S) (m:=m) HW.out.2.1; have:=zxaj (S:=S) (m:=m) HW.out.2.2; omega))
 have HM2:=zh (fun w1 u u' (hb:Below w.heap.size w w1) (h1:Cells w1 u (foldE S m (l.take k)).2) (h2:Cells w1 u' (foldE S m (l.drop k)).2) => HMe.out w1 u' u _ _ hb h2 h1 (zxao HW.out.2.2) (zxao HW.out.2.1) (by have:=zxaj (S:=S) (m:=m) HW.out.2.1; have:=zxaj (S:=S) (m:=m) HW.out.2.2; omega))
 have HZ:=zh (fun he => zxb2 (S:=S) (m:=m) k HW.out.1 he)
 have HEr:=zh (fun he => zxag (S:=S) (m:=m) (l:=l) he)
 have HLw:=zh (zxan (S:=S) (m:=m) HW.out.1);clear hb HPF HMe HH HW m0 m1 HFu x0 x1 x2 x3 HB1 HX1;generalize foldE S m l = R0 at *;generalize foldE S m (l.take k) = R1 at *;generalize foldE S m (l.drop k) = R2 at *;obtain ⟨x0,x1,x2,x3⟩:=HX3.out.reads;go_wp2_with fail;refine (HP0.out _ HB3.out).mono ?_; rintro e w4 ⟨ra,rn,rc,rfl,hn,hc,hb⟩;have HB4:=zh (zqaa HB3.out hb);have HX4:=zh (HX3.out.below hb);have HC4:=zh hc;have HN:=zh hn;clear hb hc hn HP0 HB3 HX3 x0 x1 x2 x3;go_upto_region 6 with fail;rw [HK.out];have hs1:=H1.out;have hk:=hold4r ((Below.refl w4.heap.size w4).drew) HX4.out.reads;have hBw:=HB4.out.drew;go_region_held3 (fun w' => w'.cell? ⟨w.heap.size,0,none⟩ = some (.slice a1 S.ds.length c1) ∧ w'.cell? ⟨w.heap.size,1,none⟩ = some (.slice a2 S.is.length c2) ∧ w'.cell? ⟨w.heap.size,2,none⟩ = some (.slice a3 S.ns.length c3) ∧ w'.cell? ⟨w.heap.size,3,none⟩ = some (.slice a4 S.vs.length c4)) (with_reducible exact hk)
  (first
   | (go_at_call 22; refine (HP1.out _ (by first | with_reducible exact hBw | with_reducible exact hBw.drew)).mono ?_; rintro r w5 ⟨sa,sn,sc,rfl,rfl,hc1,hb⟩; replace hk:=hold4r hb hk; replace hBw:=zqaa hBw hb; have HC5:=zh ((HC4.out.below (Below.refl w4.heap.size w4).drew).below hb); have HX5:=zh ((HX4.out.below (Below.refl w4.heap.size w4).drew).below hb); clear hb))
 have HB5:=zh hBw;have HD5:=zh hc1;clear hk hBw hc1 hs1 HP1 H1 HB4 HX4 HC4;go_upto_region 7 with fail;have hs2:=H2.out;have hk:=hold4r ((Below.refl w5.heap.size w5).drew) HX5.out.reads;have hBw:=HB5.out.drew;go_region_held3 (fun w' => w'.cell? ⟨w.heap.size,0,none⟩ = some (.slice a1 S.ds.length c1) ∧ w'.cell? ⟨w.heap.size,1,none⟩ = some (.slice a2 S.is.length c2) ∧ w'.cell? ⟨w.heap.size,2,none⟩ = some (.slice a3 S.ns.length c3) ∧ w'.cell? ⟨w.heap.size,3,none⟩ = some (.slice a4 S.vs.length c4)) (with_reducible exact hk)
  (first
   | (go_at_call 22; refine (HP2.out _ (by first | with_reducible exact hBw | with_reducible exact hBw.drew)).mono ?_; rintro r w6 ⟨ta,tn,tc,rfl,rfl,hc2,hb⟩; replace hk:=hold4r hb hk; replace hBw:=zqaa hBw hb; have HC6:=zh ((HC5.out.below (Below.refl w5.heap.size w5).drew).below hb); have HD6:=zh ((HD5.out.below (Below.refl w5.heap.size w5).drew).below hb); clear hb))
 have HB6:=zh hBw;have HE6:=zh hc2;clear hk hBw hc2 hs2 HP2 H2 HB5 HX5 HC5 HD5
 by_cases he:R0.1 = 0
 rotate_left
 ·have he':((R0.1:Int) != 0) = true:=by rw [bne_iff_ne]; omega
  have hn:=HN.out;rw [HEr.out he] at hn;subst hn;clear HEr HN he HZ HM1 HM2 HC6 HD6 HE6;go_wp2_with fail;refine (HA.out _ HB6.out).mono ?_; rintro e wA ⟨rfl,hbA⟩;have HBA:=zh (zqaa HB6.out hbA);clear hbA;go_wp2_with fail;go_ret;exact ⟨rfl,HBA.out⟩
 have he':((R0.1:Int) != 0) = false:=by rw [he]; rfl
 obtain ⟨⟨z1,z2,z3,z4,z5⟩,z6,z7,z8⟩:=HZ.out he;have HSa:=zh (fun w1 u u' (h1:Cells w1 u R0.2) (h2:Cells w1 u' (mergeE R1.2 R2.2).2) => zxau w1 u u' _ _ h1 h2 HLw.out z5)
 have HSb:=zh (fun w1 u u' (h1:Cells w1 u R0.2) (h2:Cells w1 u' (mergeE R2.2 R1.2).2) => zxau w1 u u' _ _ h1 h2 HLw.out z8)
 rw [z4] at HSa;rw [z7] at HSb;have e1:((R1.1:Int) == 0) = true:=by rw [z1]; rfl
 have e2:((R2.1:Int) == 0) = true:=by rw [z2]; rfl
 have e3:(((mergeE R1.2 R2.2).1:Int) == 0) = true:=by rw [z3]; rfl
 have e4:(((mergeE R2.2 R1.2).1:Int) == 0) = true:=by rw [z6]; rfl
 have HQ:=zh (And.intro (And.intro e1 e2) (And.intro e3 e4));clear he z1 z2 z3 z4 z5 z6 z7 z8 e1 e2 e3 e4 HZ HEr HLw HN;generalize mergeE R1.2 R2.2 = M1 at *;generalize mergeE R2.2 R1.2 = M2 at *;go_wp2_with fail;refine (HM1.out _ _ _ HB6.out HD6.out HE6.out).mono ?_; rintro e w7 ⟨xa,xn,xc,rfl,hn,hc,hb⟩;have HB7:=zh (zqaa HB6.out hb);have HC7:=zh (HC6.out.below hb);have HD7:=zh (HD6.out.below hb);have HE7:=zh (HE6.out.below hb);have HG7:=zh hc;clear hb hc hn HM1 HB6 HC6 HD6 HE6;go_wp2_with fail;refine (HM2.out _ _ _ HB7.out HD7.out HE7.out).mono ?_; rintro e w8 ⟨ya,yn,yc,rfl,hn,hc,hb⟩;have HB8:=zh (zqaa HB7.out hb);have HC8:=zh (HC7.out.below hb);have HG8:=zh (HG7.out.below hb);have HI8:=zh hc;clear hb hc hn HM2 HB7 HC7 HD7 HE7 HG7;obtain ⟨⟨e1,e2⟩,e3,e4⟩:=HQ.out;go_wp2_with fail;refine (HSa.out _ _ _ HC8.out HG8.out).mono ?_; rintro e w9 ⟨rfl,hb⟩;have HB9:=zh (zqaa HB8.out hb);have HC9:=zh (HC8.out.below hb);have HI9:=zh (HI8.out.below hb);clear hb HSa HB8 HC8 HG8 HI8;go_wp2_with fail;refine (HSb.out _ _ _ HC9.out HI9.out).mono ?_; rintro e w10 ⟨rfl,hb⟩;have HB10:=zh (zqaa HB9.out hb);clear hb HSb HB9 HC9 HI9;go_wp2_with fail;refine (HA.out _ HB10.out).mono ?_; rintro e wA ⟨rfl,hbA⟩;have HBA:=zh (zqaa HB10.out hbA);clear hbA;go_wp2_with fail;go_ret;exact ⟨rfl,HBA.out⟩
set_option maxRecDepth 100000 in
theorem lifted (os:Os) (started:os.Started) (H:Type) (enc:TypeId × Value → H) :
  ReturnsInHanded {} Tryz.checked os 7 .any (fun w args => (Rows.cellsPartsSpec.pre enc Tryz.prog Tryz.f7 [] false w args ∧ laidMetH Tryz.prog laid3 w) ∧ sizedMet enc Tryz.prog Tryz.f7 (OpenSpec.ofChange Rows.cellsPartsSpec) false w args)
   (Rows.cellsPartsSpec.post enc Tryz.prog Tryz.f7 false true false false):=by
 refine returnsInHanded_of_change_and (C:=Tryz.checked) (X:=fun w _ => laidMetH Tryz.prog laid3 w) (fun _ _ _ hh h => h.of_heap hh) own2 started (by kernel_rfl) Tryz.func7
  (ChangeSpec.witness_shaped (enc:=enc) (C:=Tryz.checked) (os:=os) (X:=fun w _ => laidMetH Tryz.prog laid3 w) false (World.doorLaid Tryz.prog 800 os) #[.agg #[.slice none 0 0,.slice none 0 0,.slice none 0 0,.slice none 0 0],.slice none 0 0,.int .i64 0] 8 rfl (World.shaped_of_RefB (by kernel_rfl) (by kernel_rfl)) (by kernel_rfl) (by kernel_rfl) (by kernel_rfl) (zqsp os _)) ?_
 intro W base args ds gs before hval0 hW _ _ hL _;have hTab:=zqzn hL;have hTab64:=zqu2 hL;have hval:∀ (j:Nat) t v,Tryz.f7.params[j]? = some t → args[j]? = some v → Value.okWide Tryz.prog W .any base t v:=hval0
 have hW':=hW;obtain ⟨p,q,hA0,hV,rfl,hfz,hnd⟩:=hW;have hA:DataW.TrodAll enc Tryz.prog W 0 (fun _ => true) true Tryz.f7.params.toList args.toList ds p:=hA0
 rw [Tryz.params7] at hA hval;obtain ⟨v0,vs0,d0,ds0,p0,q0,hargs,rfl,rfl,h0,r0⟩:=trodAll_cons hA;obtain ⟨v1,vs1,d1,ds1,p1,q1,rfl,rfl,rfl,h1,r1⟩:=trodAll_cons r0;obtain ⟨v2,vs2,d2,ds2,p2,q2,rfl,rfl,rfl,h2,r2⟩:=trodAll_cons r1;obtain ⟨rfl,rfl,rfl⟩:=trodAll_nil r2;obtain rfl:args = #[v0,v1,v2]:=by cases args; simp_all
 obtain ⟨rfl,rfl⟩:=trodVars_none hV;have k0:=h0;have lt0:∀ x ∈ p0,x.block < W.heap.size:=by obtain ⟨m,hm⟩:=k0; exact DataW.trod_lt m _ _ _ hm
 obtain ⟨D0,I0,N0,V0,S0,rfl,s0,w0⟩:=zquu (hval 0 26 v0 rfl rfl) h0;have k1:=h1;have lt1:∀ x ∈ p1,x.block < W.heap.size:=by obtain ⟨m,hm⟩:=k1; exact DataW.trod_lt m _ _ _ hm
 obtain ⟨a1,len1,cap1,rfl⟩:=okWide_slice Tryz.underlying47 (hval 1 47 v1 rfl rfl);obtain ⟨l1,s1,w1⟩:=zxce h1 ⟨_,_,_,rfl⟩;obtain ⟨a2,rfl,rfl,rfl,w2⟩:=open_int Tryz.underlying3 (hval 2 3 v2 rfl rfl) h2;clear hA0 hval0;refine (walk D0 I0 N0 V0 S0 (.slice a1 len1 cap1) l1 a2 W s0 w0 s1 w1 (bounds_i64 w2) hTab hTab64).mono fun e W' ⟨he,bel⟩ => ?_
 subst he;exact ⟨_,rfl,_,_,_,[],_,[],hW',trodAll_mk1 (shut_bool Tryz.underlying4 _),(trodAll_cons_mk (Below.trod laidOut2 (by kernel_rfl) (of_decide_eq_true (by kernel_rfl)) k0 bel lt0) (trodAll_cons_mk (Below.trod laidOut2 (by kernel_rfl) (of_decide_eq_true (by kernel_rfl)) k1 bel lt1) (trodAll_cons_mk (shut_int Tryz.underlying3 w2) trodAll_mk0))),rfl,bel.frame _,fun h => by cases h⟩
theorem over:Rows.cellsPartsRow.holds Tryz.pinned (OpenSpec.ofChange Rows.cellsPartsSpec) :=
 OpenClaim.holds_of_wide 7 Tryz.f7 rfl rfl rfl rfl rfl rfl rfl ⟨rfl,rfl,rfl,rfl,rfl⟩ rfl rfl rfl rfl rfl (by kernel_rfl) Tryz.func7 (by kernel_rfl)
  (of_decide_eq_true (by kernel_rfl)) (by unfold Func.isWrapper; first | (rw [if_pos (by decide +kernel)]; kernel_rfl) | (rw [if_neg (by decide +kernel)]; exact ⟨rfl,rfl⟩))
  (fun os started H enc _ => lifted os started H enc)
theorem row_holds:Rows.CellsPartsSaid:=over
end Go.Proofs.YtmnbljijnbhghaaGreatDoor.cellsParts
namespace Go.Proofs.YtmnbljijnbhghaaGreatDoor
theorem cellsParts_holds:Rows.CellsPartsCardSaid :=
 Claim7.holds_tied_plain_at .later [] [.data,.data] true _ false
  cellsParts.row_holds (fun _ h => by cases h) (by kernel_rfl) (fun _ h => by cases h) cellsParts_row_tie rfl ⟨rfl,rfl⟩ (by kernel_rfl) rfl
  (fun f fn hf hfn => by
   obtain rfl : f = 7 := Option.some.inj ((show Tryz.prog.funcNamed "bushel/bushellaw15.CellsParts" = some 7 by kernel_rfl).symm.trans hf) |>.symm
   obtain rfl:fn = Tryz.f7:=(Option.some.inj (Tryz.func7.symm.trans hfn)).symm;exact ⟨by kernel_rfl,fun j t ht => by
    rw [Tryz.params7] at ht;have hm:t ∈ [26,47,3]:=by simpa using Array.mem_of_getElem? ht
    have hall:([26,47,3].all fun u => !Tryz.prog.wantsStandIn u) = true:=by kernel_rfl
    exact (show Tryz.prog.wantsStandIn t = false by simpa using List.all_eq_true.1 hall t hm)⟩)
  (by kernel_rfl)
#print axioms cellsParts_holds
end Go.Proofs.YtmnbljijnbhghaaGreatDoor
