/- Layer 15: CellsFold: facts are folded as the reference folds them, or have its error; what is folded is right: any schema, any set, any facts; no condition. -/
import Derived.SevenTiedAt
import Derived.BigQuiet
import Derived.Deep.QuietTactic
import Derived.Lib.AppendZeros
import Derived.Deep.RegionHeld3
import Derived.WalkKit
import Derived.Maps.OwnSet
import Derived.Lib.Hide
import Derived.Below
import Derived.OpenShut
import Derived.Deep.Draws
import Derived.Deep.CutBlock
import Derived.WalkSmall
import Derived.SliceStrings
import Derived.Laws.FloatArith
import Derived.WalkLawsBesides
import Derived.Laws.Externs
import Derived.Laws.BitsAllLaws
import Derived.Shelf.Spec.TrailingZeros
import Derived.Laws.Bits64b
import Derived.Lib.BitFns
import Derived.Lib.Small
import Derived.Lib.Strings
import Derived.Lib.Slices
import Derived.Lib.Walk
import Derived.WalkSpells
import Derived.OwnWalk
import Derived.Laws.Bits64
import Derived.Deep.DeepCutAuto
import Derived.Deep.RegionLawGrows
import Derived.Lib.ItoaNum
import Derived.Deep.AppendLies
import Derived.Deep.LoopGhost
import Derived.RegionTactic
import Derived.ChangeAlike
import Derived.Laws.IdiomStrings
import Derived.ProofKit
import Derived.LaidMore
import Derived.Stop.Joined
import Derived.Lib.LaidTab
import Derived.Laws.BytesArg
import Derived.Deep.RegionLaw
import Derived.Outline
import Derived.Deep.RegionWith
import Derived.ChangeSlices
import Derived.Deep.RegionHeld
import Derived.Deep.DrawnRows
import Derived.Deep.CutRange
import Derived.Deep.Slices
import Derived.Deep.Fields
import Derived.ChangeSame
import Derived.Lib.SmallJoins
import Derived.Lib.Bytealg
import Derived.Lib.ConvBytes
import Derived.Laws.CopyRow
import Derived.Laws.IdiomCopy
import Derived.Laws.OwnMore
import Derived.Laws.MakeOwn
import Derived.Maps.Ext
import Derived.Maps.RangeWalk
import Derived.Sort.OwnSorted
import Derived.Shelf.SlSortCmp.WholeK
import Derived.Shelf.SlSortCmp.NoneTotal
import Derived.Test.YtmnbljijnbhghaaGreatDoorRows
import Derived.Test.YtmnbljijnbhghaaGreatDoorCards
import Derived.Test.YtmnbljijnbhghaaGreatDoorTie
import Derived.Test.YtmnbljijnbhghaaGreatDoorProg
import Derived.Test.YtmnbljijnbhghaaGreatDoorPf01
import Derived.Test.YtmnbljijnbhghaaGreatDoorPf02
import Derived.Test.YtmnbljijnbhghaaGreatDoorPf03
import Derived.Test.YtmnbljijnbhghaaGreatDoorPf04
import Derived.Test.YtmnbljijnbhghaaGreatDoorPf05
import Derived.Test.YtmnbljijnbhghaaGreatDoorPf06
import Derived.Test.YtmnbljijnbhghaaGreatDoorPt01
import Derived.Test.YtmnbljijnbhghaaGreatDoorPt02
import Derived.Test.YtmnbljijnbhghaaGreatDoorPt03
import Derived.Test.YtmnbljijnbhghaaGreatDoorPt04
import Derived.Test.YtmnbljijnbhghaaGreatDoorPt05
import Derived.Test.YtmnbljijnbhghaaGreatDoorPt06
import Derived.Test.YtmnbljijnbhghaaGreatDoorPt07
import Derived.Test.YtmnbljijnbhghaaGreatDoorPt08
import Derived.Test.YtmnbljijnbhghaaGreatDoorPt09
import Derived.Test.YtmnbljijnbhghaaGreatDoorPt10
import Derived.Test.YtmnbljijnbhghaaGreatDoorPt11
import Derived.Test.YtmnbljijnbhghaaGreatDoorPt12
import Derived.Test.YtmnbljijnbhghaaGreatDoorPt13
import Derived.Test.YtmnbljijnbhghaaGreatDoorPt14
import Derived.Test.YtmnbljijnbhghaaGreatDoorPt15
import Derived.Test.YtmnbljijnbhghaaGreatDoorPt16
import Derived.Test.YtmnbljijnbhghaaGreatDoorPt17
import Derived.Test.YtmnbljijnbhghaaGreatDoorPt18
import Derived.Test.YtmnbljijnbhghaaGreatDoorPt19
import Derived.Test.YtmnbljijnbhghaaGreatDoorPt20
import Derived.Test.YtmnbljijnbhghaaGreatDoorPt21
import Derived.Test.YtmnbljijnbhghaaGreatDoorPt22
import Derived.Test.YtmnbljijnbhghaaGreatDoorPt23
import Derived.Test.YtmnbljijnbhghaaGreatDoorPt24
import Derived.Test.YtmnbljijnbhghaaGreatDoorPt25
import Derived.Test.YtmnbljijnbhghaaGreatDoorPt26
import Derived.Test.YtmnbljijnbhghaaGreatDoorPt27
import Derived.Test.YtmnbljijnbhghaaGreatDoorPt28
import Derived.Test.YtmnbljijnbhghaaGreatDoorPt29
import Derived.Test.YtmnbljijnbhghaaGreatDoorPt30
import Derived.Test.YtmnbljijnbhghaaGreatDoorPt31
import Derived.Test.YtmnbljijnbhghaaGreatDoorPt32
import Derived.Test.YtmnbljijnbhghaaGreatDoorPt33
namespace Go.Proofs.YtmnbljijnbhghaaGreatDoor.cellsFold
set_option maxRecDepth 100000
open Go.ChangeShapes Go.WideShapes Go.ChangeAt Go.RowKit
set_option linter.unusedVariables false
set_option maxHeartbeats 16000000 in
theorem walk (D I N V:Value) (S:Sc) (m:Int) (v:Value) (l:List Fa) (w:World) (h:Sch4 w D I N V S) (hw:SWf S) (hm:0 ≤ m ∧ m ≤ 4294967295) (h':Facts w v l) (hf:∀ f ∈ l,FaWf f) (hT:Tab w) (hT2:Tab64 w) :
  Calls Tryz.prog 4 #[SchV D I N V,.int .u32 m,v] w fun e w' => e = .returned (.bool true) ∧ Below w.heap.size w w':=by
 have HB:=zh (zqab w (SchO D I N V));have HX:=zh (zqau w D I N V);have HA:=zh (fun w1 (hb:Below w.heap.size w w1) => zqoc w1 (hT.call hb) (hT2.call hb))
 have HSl:=zh (fun w1 (hb:Below w.heap.size w w1) => zqrv w1 D I N V S (h.below hb))
 have HFl:=zh (fun w1 (hb:Below w.heap.size w w1) => zxa9 w1 v l (h'.below hb))
 have HPF:=zh (fun w1 (hb:Below w.heap.size w w1) => (zqt9 w1 D I N V v S m l (h.below hb) hw (h'.below hb) hf (hT.call hb) (hT2.call hb) hm.1 hm.2).mono fun e w' hh => RollP.lis hh)
 have HRF:=zh (fun w1 (hb:Below w.heap.size w w1) => (zxa1 w1 D I N V v S m l (h.below hb) hw (h'.below hb) hf hm.1 hm.2).mono fun e w' hh => FoldR.lis hh)
 have hLs:=zxb7 (S:=S) (m:=m) hf;have hRt:=fun he => (zxal (S:=S) (m:=m) hf he).1
 have HSm:=zh (fun w1 u u' (h1:Cells w1 u (foldE S m l).2) (h2:Cells w1 u' (foldE S m l).2) => zxa2 w1 u u' _ _ h1 h2 hLs hLs)
 rw [zqsr] at HSm;have HRi:=zh (fun w1 u (hb:Below w.heap.size w w1) (h1:Cells w1 u (foldE S m l).2) (he:(foldE S m l).1 = 0) => show Calls Tryz.prog 13 #[SchV D I N V,.int .u32 m,u] w1 fun e w' => e = .returned (.bool true) ∧ Below w1.heap.size w1 w' from by
  have h3:=zqgo w1 D I N V u S m _ (h.below hb) hw h1 hLs hm.1 hm.2;rw [hRt he] at h3;exact h3)
 obtain ⟨⟨a1,c1,rfl⟩,⟨a2,c2,rfl⟩,⟨a3,c3,rfl⟩,a4,c4,rfl⟩:=h.slices;obtain ⟨p,cap,rfl⟩:=h'.len;clear h h' hw hf hLs hRt hT hT2;generalize foldE S m l = R at *;obtain ⟨E,L⟩:=R;go_enter Tryz.func4,Tryz.ntmps4;obtain ⟨x0,x1,x2,x3⟩:=HX.out.reads;go_wp2_with fail;refine (HSl.out _ HB.out).mono ?_; rintro e w1 ⟨⟨bb,rfl⟩,hb⟩;have HB1:=zh (zqaa HB.out hb);have HX1:=zh (HX.out.below hb);clear hb x0 x1 x2 x3 HX HB HSl;cases bb with
 | false =>
  clear HFl HPF HRF HSm HRi;go_wp2_with fail;refine (HA.out _ HB1.out).mono ?_; rintro e wA ⟨rfl,hbA⟩;have HBA:=zh (zqaa HB1.out hbA);clear hbA;go_wp2_with fail;go_ret;exact ⟨rfl,HBA.out⟩
 | true =>
 by_cases hl:250 < l.length
 ·have hl':(250:Int) < (l.length:Int):=by omega
  clear HFl HPF HRF HSm HRi;go_wp2_with fail;refine (HA.out _ HB1.out).mono ?_; rintro e wA ⟨rfl,hbA⟩;have HBA:=zh (zqaa HB1.out hbA);clear hbA;go_wp2_with fail;go_ret;exact ⟨rfl,HBA.out⟩
 have hl':¬ (250:Int) < (l.length:Int):=by omega
 go_wp2_with fail;refine (HFl.out _ HB1.out).mono ?_; rintro e w2 ⟨⟨bb,rfl⟩,rfl⟩;clear HFl;cases bb with
 | false =>
  clear HPF HRF HSm HRi;go_wp2_with fail;refine (HA.out _ HB1.out).mono ?_; rintro e wA ⟨rfl,hbA⟩;have HBA:=zh (zqaa HB1.out hbA);clear hbA;go_wp2_with fail;go_ret;exact ⟨rfl,HBA.out⟩
 | true =>
 obtain ⟨x0,x1,x2,x3⟩:=HX1.out.reads;go_wp2_with fail;refine (HPF.out _ HB1.out).mono ?_; rintro e w3 ⟨ra,rn,rc,rfl,hn,hc,hb⟩;have HB3:=zh (zqaa HB1.out hb);have HX3:=zh (HX1.out.below hb);have HC3:=zh hc;clear hb hc hn x0 x1 x2 x3 HX1 HB1 HPF;obtain ⟨x0,x1,x2,x3⟩:=HX3.out.reads;go_wp2_with fail;refine (HRF.out _ HB3.out).mono ?_; rintro e w4 ⟨qa,qn,qc,rfl,hn,hc,hb⟩;have HB4:=zh (zqaa HB3.out hb);have HX4:=zh (HX3.out.below hb);have HS4:=zh (HSm.out _ _ _ (HC3.out.below hb) hc);have HC4:=zh (HC3.out.below hb);clear hb hc hn x0 x1 x2 x3 HX3 HB3 HRF HSm HC3;have hEE:((E:Int) == (E:Int)) = true:=by simp
 go_wp2_with fail;refine HS4.out.mono ?_; rintro e w5 ⟨rfl,hb⟩;have HB5:=zh (zqaa HB4.out hb);have HX5:=zh (HX4.out.below hb);have HC5:=zh (HC4.out.below hb);clear hb HS4 HX4 HB4 HC4
 by_cases he:E = 0
 ·have he':((E:Int) != 0) = false:=by subst he; rfl
  have HR5:=zh (HRi.out _ _ HB5.out HC5.out he);obtain ⟨x0,x1,x2,x3⟩:=HX5.out.reads;clear HRi HC5 HX5 he;go_wp2_with fail;refine HR5.out.mono ?_; rintro e w6 ⟨rfl,hb⟩;have HB6:=zh (zqaa HB5.out hb);clear hb HR5 HB5 x0 x1 x2 x3;go_wp2_with fail;refine (HA.out _ HB6.out).mono ?_; rintro e wA ⟨rfl,hbA⟩;have HBA:=zh (zqaa HB6.out hbA);clear hbA;go_wp2_with fail;go_ret;exact ⟨rfl,HBA.out⟩
 ·have he':((E:Int) != 0) = true:=by rw [bne_iff_ne]; omega
  clear HRi HC5 HX5 he;go_wp2_with fail;refine (HA.out _ HB5.out).mono ?_; rintro e wA ⟨rfl,hbA⟩;have HBA:=zh (zqaa HB5.out hbA);clear hbA;go_wp2_with fail;go_ret;exact ⟨rfl,HBA.out⟩
set_option maxRecDepth 100000 in
theorem lifted (os:Os) (started:os.Started) (H:Type) (enc:TypeId × Value → H) :
  ReturnsInHanded {} Tryz.checked os 4 .any (fun w args => (Rows.cellsFoldSpec.pre enc Tryz.prog Tryz.f4 [] false w args ∧ laidMetH Tryz.prog laid3 w) ∧ sizedMet enc Tryz.prog Tryz.f4 (OpenSpec.ofChange Rows.cellsFoldSpec) false w args)
   (Rows.cellsFoldSpec.post enc Tryz.prog Tryz.f4 false true false false):=by
 refine returnsInHanded_of_change_and (C:=Tryz.checked) (X:=fun w _ => laidMetH Tryz.prog laid3 w) (fun _ _ _ hh h => h.of_heap hh) own2 started (by kernel_rfl) Tryz.func4
  (ChangeSpec.witness_shaped (enc:=enc) (C:=Tryz.checked) (os:=os) (X:=fun w _ => laidMetH Tryz.prog laid3 w) false (World.doorLaid Tryz.prog 800 os) #[.agg #[.slice none 0 0,.slice none 0 0,.slice none 0 0,.slice none 0 0],.int .u32 0,.slice none 0 0] 8 rfl (World.shaped_of_RefB (by kernel_rfl) (by kernel_rfl)) (by kernel_rfl) (by kernel_rfl) (by kernel_rfl) (zqsp os _)) ?_
 intro W base args ds gs before hval0 hW _ _ hL _;have hTab:=zqzn hL;have hTab64:=zqu2 hL;have hval:∀ (j:Nat) t v,Tryz.f4.params[j]? = some t → args[j]? = some v → Value.okWide Tryz.prog W .any base t v:=hval0
 have hW':=hW;obtain ⟨p,q,hA0,hV,rfl,hfz,hnd⟩:=hW;have hA:DataW.TrodAll enc Tryz.prog W 0 (fun _ => true) true Tryz.f4.params.toList args.toList ds p:=hA0
 rw [Tryz.params4] at hA hval;obtain ⟨v0,vs0,d0,ds0,p0,q0,hargs,rfl,rfl,h0,r0⟩:=trodAll_cons hA;obtain ⟨v1,vs1,d1,ds1,p1,q1,rfl,rfl,rfl,h1,r1⟩:=trodAll_cons r0;obtain ⟨v2,vs2,d2,ds2,p2,q2,rfl,rfl,rfl,h2,r2⟩:=trodAll_cons r1;obtain ⟨rfl,rfl,rfl⟩:=trodAll_nil r2;obtain rfl:args = #[v0,v1,v2]:=by cases args; simp_all
 obtain ⟨rfl,rfl⟩:=trodVars_none hV;have k0:=h0;have lt0:∀ x ∈ p0,x.block < W.heap.size:=by obtain ⟨m,hm⟩:=k0; exact DataW.trod_lt m _ _ _ hm
 obtain ⟨D0,I0,N0,V0,S0,rfl,s0,w0⟩:=zquu (hval 0 26 v0 rfl rfl) h0;obtain ⟨a1,rfl,rfl,rfl,w1⟩:=open_int Tryz.underlying27 (hval 1 27 v1 rfl rfl) h1;have k2:=h2;have lt2:∀ x ∈ p2,x.block < W.heap.size:=by obtain ⟨m,hm⟩:=k2; exact DataW.trod_lt m _ _ _ hm
 obtain ⟨a2,len2,cap2,rfl⟩:=okWide_slice Tryz.underlying47 (hval 2 47 v2 rfl rfl);obtain ⟨l2,s2,w2⟩:=zxbu h2 ⟨_,_,_,rfl⟩;clear hA0 hval0;refine (walk D0 I0 N0 V0 S0 a1 (.slice a2 len2 cap2) l2 W s0 w0 (bounds_u32 w1) s2 w2 hTab hTab64).mono fun e W' ⟨he,bel⟩ => ?_
 subst he;exact ⟨_,rfl,_,_,_,[],_,[],hW',trodAll_mk1 (shut_bool Tryz.underlying4 _),(trodAll_cons_mk (Below.trod laidOut2 (by kernel_rfl) (of_decide_eq_true (by kernel_rfl)) k0 bel lt0) (trodAll_cons_mk (shut_int Tryz.underlying27 w1) (trodAll_cons_mk (Below.trod laidOut2 (by kernel_rfl) (of_decide_eq_true (by kernel_rfl)) k2 bel lt2) trodAll_mk0))),rfl,bel.frame _,fun h => by cases h⟩
theorem over:Rows.cellsFoldRow.holds Tryz.pinned (OpenSpec.ofChange Rows.cellsFoldSpec) :=
 OpenClaim.holds_of_wide 4 Tryz.f4 rfl rfl rfl rfl rfl rfl rfl ⟨rfl,rfl,rfl,rfl,rfl⟩ rfl rfl rfl rfl rfl (by kernel_rfl) Tryz.func4 (by kernel_rfl)
  (of_decide_eq_true (by kernel_rfl)) (by unfold Func.isWrapper; first | (rw [if_pos (by decide +kernel)]; kernel_rfl) | (rw [if_neg (by decide +kernel)]; exact ⟨rfl,rfl⟩))
  (fun os started H enc _ => lifted os started H enc)
theorem row_holds:Rows.CellsFoldSaid:=over
end Go.Proofs.YtmnbljijnbhghaaGreatDoor.cellsFold
namespace Go.Proofs.YtmnbljijnbhghaaGreatDoor
theorem cellsFold_holds:Rows.CellsFoldCardSaid :=
 Claim7.holds_tied_plain_at .later [] [.data,.data] true _ false
  cellsFold.row_holds (fun _ h => by cases h) (by kernel_rfl) (fun _ h => by cases h) cellsFold_row_tie rfl ⟨rfl,rfl⟩ (by kernel_rfl) rfl
  (fun f fn hf hfn => by
   obtain rfl : f = 4 := Option.some.inj ((show Tryz.prog.funcNamed "bushel/bushellaw15.CellsFold" = some 4 by kernel_rfl).symm.trans hf) |>.symm
   obtain rfl:fn = Tryz.f4:=(Option.some.inj (Tryz.func4.symm.trans hfn)).symm;exact ⟨by kernel_rfl,fun j t ht => by
    rw [Tryz.params4] at ht;have hm:t ∈ [26,27,47]:=by simpa using Array.mem_of_getElem? ht
    have hall:([26,27,47].all fun u => !Tryz.prog.wantsStandIn u) = true:=by kernel_rfl
    exact (show Tryz.prog.wantsStandIn t = false by simpa using List.all_eq_true.1 hall t hm)⟩)
  (by kernel_rfl)
#print axioms cellsFold_holds
end Go.Proofs.YtmnbljijnbhghaaGreatDoor
