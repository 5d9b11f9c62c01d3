/- Layer 15: CellsMerge: two lists are merged as the reference merges them, or have its error; whether they are the same is told as the reference tells it: any two lists; no condition. -/
import Derived.SevenTiedAt
import Derived.BigQuiet
import Derived.Deep.QuietTactic
import Derived.Lib.AppendZeros
import Derived.Deep.RegionHeld3
import Derived.WalkKit
import Derived.Maps.OwnSet
import Derived.Lib.Hide
import Derived.Below
import Derived.OpenShut
import Derived.Deep.Draws
import Derived.Deep.CutBlock
import Derived.WalkSmall
import Derived.SliceStrings
import Derived.Laws.FloatArith
import Derived.WalkLawsBesides
import Derived.Laws.Externs
import Derived.Laws.BitsAllLaws
import Derived.Shelf.Spec.TrailingZeros
import Derived.Laws.Bits64b
import Derived.Lib.BitFns
import Derived.Lib.Small
import Derived.Lib.Strings
import Derived.Lib.Slices
import Derived.Lib.Walk
import Derived.WalkSpells
import Derived.OwnWalk
import Derived.Laws.Bits64
import Derived.Deep.DeepCutAuto
import Derived.Deep.RegionLawGrows
import Derived.Lib.ItoaNum
import Derived.Deep.AppendLies
import Derived.Deep.LoopGhost
import Derived.RegionTactic
import Derived.ChangeAlike
import Derived.Laws.IdiomStrings
import Derived.ProofKit
import Derived.LaidMore
import Derived.Stop.Joined
import Derived.Lib.LaidTab
import Derived.Laws.BytesArg
import Derived.Deep.RegionLaw
import Derived.Outline
import Derived.Deep.RegionWith
import Derived.ChangeSlices
import Derived.Deep.RegionHeld
import Derived.Deep.DrawnRows
import Derived.Deep.CutRange
import Derived.Deep.Slices
import Derived.Deep.Fields
import Derived.ChangeSame
import Derived.Lib.SmallJoins
import Derived.Lib.Bytealg
import Derived.Lib.ConvBytes
import Derived.Laws.CopyRow
import Derived.Laws.IdiomCopy
import Derived.Laws.OwnMore
import Derived.Laws.MakeOwn
import Derived.Maps.Ext
import Derived.Maps.RangeWalk
import Derived.Sort.OwnSorted
import Derived.Shelf.SlSortCmp.WholeK
import Derived.Shelf.SlSortCmp.NoneTotal
import Derived.Test.YtmnbljijnbhghaaGreatDoorRows
import Derived.Test.YtmnbljijnbhghaaGreatDoorCards
import Derived.Test.YtmnbljijnbhghaaGreatDoorTie
import Derived.Test.YtmnbljijnbhghaaGreatDoorProg
import Derived.Test.YtmnbljijnbhghaaGreatDoorPm01
import Derived.Test.YtmnbljijnbhghaaGreatDoorPm02
import Derived.Test.YtmnbljijnbhghaaGreatDoorPm03
import Derived.Test.YtmnbljijnbhghaaGreatDoorPm04
import Derived.Test.YtmnbljijnbhghaaGreatDoorPt01
import Derived.Test.YtmnbljijnbhghaaGreatDoorPt02
import Derived.Test.YtmnbljijnbhghaaGreatDoorPt03
import Derived.Test.YtmnbljijnbhghaaGreatDoorPt04
import Derived.Test.YtmnbljijnbhghaaGreatDoorPt05
import Derived.Test.YtmnbljijnbhghaaGreatDoorPt06
import Derived.Test.YtmnbljijnbhghaaGreatDoorPt07
import Derived.Test.YtmnbljijnbhghaaGreatDoorPt08
import Derived.Test.YtmnbljijnbhghaaGreatDoorPt09
import Derived.Test.YtmnbljijnbhghaaGreatDoorPt10
import Derived.Test.YtmnbljijnbhghaaGreatDoorPt11
import Derived.Test.YtmnbljijnbhghaaGreatDoorPt12
import Derived.Test.YtmnbljijnbhghaaGreatDoorPt13
import Derived.Test.YtmnbljijnbhghaaGreatDoorPt14
import Derived.Test.YtmnbljijnbhghaaGreatDoorPt15
import Derived.Test.YtmnbljijnbhghaaGreatDoorPt16
import Derived.Test.YtmnbljijnbhghaaGreatDoorPt17
import Derived.Test.YtmnbljijnbhghaaGreatDoorPt18
import Derived.Test.YtmnbljijnbhghaaGreatDoorPt19
import Derived.Test.YtmnbljijnbhghaaGreatDoorPt20
import Derived.Test.YtmnbljijnbhghaaGreatDoorPt21
import Derived.Test.YtmnbljijnbhghaaGreatDoorPt22
import Derived.Test.YtmnbljijnbhghaaGreatDoorPt23
import Derived.Test.YtmnbljijnbhghaaGreatDoorPt24
import Derived.Test.YtmnbljijnbhghaaGreatDoorPt25
import Derived.Test.YtmnbljijnbhghaaGreatDoorPt26
import Derived.Test.YtmnbljijnbhghaaGreatDoorPt27
import Derived.Test.YtmnbljijnbhghaaGreatDoorPt28
import Derived.Test.YtmnbljijnbhghaaGreatDoorPt29
import Derived.Test.YtmnbljijnbhghaaGreatDoorPt30
import Derived.Test.YtmnbljijnbhghaaGreatDoorPt31
import Derived.Test.YtmnbljijnbhghaaGreatDoorPt32
import Derived.Test.YtmnbljijnbhghaaGreatDoorPt33
namespace Go.Proofs.YtmnbljijnbhghaaGreatDoor.cellsMerge
set_option maxRecDepth 100000
open Go.ChangeShapes Go.WideShapes Go.ChangeAt Go.RowKit
set_option linter.unusedVariables false
set_option maxHeartbeats 16000000 in
theorem walk (u:Value) (a:List Ce) (v:Value) (b:List Ce) (w:World) (ha:Cells w u a) (wa:LsW a) (hb:Cells w v b) (wb:LsW b) (hT:Tab w) (hT2:Tab64 w) :
  Calls Tryz.prog 5 #[u,v] w fun e w' => e = .returned (.bool true) ∧ Below w.heap.size w w':=by
 have HB:=zh (Below.refl w.heap.size w);have HA:=zh (fun w1 (hb:Below w.heap.size w w1) => zqoc w1 (hT.call hb) (hT2.call hb))
 have HLa:=zh (fun w1 (h1:Below w.heap.size w w1) => zqni w1 u a (ha.below h1))
 have HLb:=zh (fun w1 (h1:Below w.heap.size w w1) => zqni w1 v b (hb.below h1))
 obtain ⟨p,cp,rfl,-⟩:=id ha;obtain ⟨q,cq,rfl,-⟩:=id hb
 by_cases la:lightL a = true
 rotate_left
 ·rw [eq_false_of_ne_true la] at HLa;clear HLb ha hb wa wb hT hT2;go_enter Tryz.func5,Tryz.ntmps5;go_wp2_with fail;refine (HLa.out _ HB.out).mono ?_; rintro e w1 ⟨rfl,hb1⟩;have HB1:=zh (zqaa HB.out hb1);clear hb1 HLa HB;go_wp2_with fail;refine (HA.out _ HB1.out).mono ?_; rintro e wA ⟨rfl,hbA⟩;have HBA:=zh (zqaa HB1.out hbA);clear hbA;go_wp2_with fail;go_ret;exact ⟨rfl,HBA.out⟩
 by_cases lb:lightL b = true
 rotate_left
 ·rw [la] at HLa;rw [eq_false_of_ne_true lb] at HLb;clear ha hb wa wb hT hT2;go_enter Tryz.func5,Tryz.ntmps5;go_wp2_with fail;refine (HLa.out _ HB.out).mono ?_; rintro e w1 ⟨rfl,hb1⟩;have HB1:=zh (zqaa HB.out hb1);clear hb1 HLa HB;go_wp2_with fail;refine (HLb.out _ HB1.out).mono ?_; rintro e w2 ⟨rfl,hb1⟩;have HB2:=zh (zqaa HB1.out hb1);clear hb1 HLb HB1;go_wp2_with fail;refine (HA.out _ HB2.out).mono ?_; rintro e wA ⟨rfl,hbA⟩;have HBA:=zh (zqaa HB2.out hbA);clear hbA;go_wp2_with fail;go_ret;exact ⟨rfl,HBA.out⟩
 rw [la] at HLa;rw [lb] at HLb;obtain ⟨na,sa⟩:=zxa6 la wa;obtain ⟨nb,sb⟩:=zxa6 lb wb;have HP:=zh (fun w1 (h1:Below w.heap.size w w1) => (zxbn w1 _ _ a b (ha.below h1) (hb.below h1) (fun c hc => (sa c hc).sm) (fun c hc => (sb c hc).sm) (by omega) (hT.call h1)).mono fun e w' hh => MergeP.lis hh)
 have HR:=zh (fun w1 (h1:Below w.heap.size w w1) => (zxbe w1 _ _ a b (ha.below h1) (hb.below h1) sa sb (by omega) (by omega)).mono fun e w' hh => MergR.lis hh)
 have hLs:LsW (mergeE a b).2:=fun c hc => (zxbt sa sb c hc).1
 have HSm:=zh (fun w1 u u' (h1:Cells w1 u (mergeE a b).2) (h2:Cells w1 u' (mergeE a b).2) => zxav w1 u u' _ _ h1 h2 hLs hLs)
 rw [zqsr] at HSm;have HSp:=zh (fun w1 (h1:Below w.heap.size w w1) => zqos w1 _ _ a b (ha.below h1) (hb.below h1) wa wb)
 have HSr:=zh (fun w1 (h1:Below w.heap.size w w1) => zxav w1 _ _ a b (ha.below h1) (hb.below h1) wa wb)
 clear ha hb wa wb hLs sa sb la lb hT hT2;generalize mergeE a b = R at *;generalize eqsC a b = sm at *;obtain ⟨E,L⟩:=R;go_enter Tryz.func5,Tryz.ntmps5;go_wp2_with fail;refine (HLa.out _ HB.out).mono ?_; rintro e w1 ⟨rfl,hb1⟩;have HB1:=zh (zqaa HB.out hb1);clear hb1 HLa HB;go_wp2_with fail;refine (HLb.out _ HB1.out).mono ?_; rintro e w2 ⟨rfl,hb1⟩;have HB2:=zh (zqaa HB1.out hb1);clear hb1 HLb HB1;go_wp2_with fail;refine (HP.out _ HB2.out).mono ?_; rintro e w3 ⟨ra,rn,rc,rfl,hn,hc,hb1⟩;have HB3:=zh (zqaa HB2.out hb1);have HC3:=zh hc;clear hb1 hc hn HB2 HP;go_wp2_with fail;refine (HR.out _ HB3.out).mono ?_; rintro e w4 ⟨qa,qn,qc,rfl,hn,hc,hb1⟩;have HB4:=zh (zqaa HB3.out hb1);have HS4:=zh (HSm.out _ _ _ (HC3.out.below hb1) hc);clear hb1 hc hn HB3 HR HSm HC3;have hEE:((E:Int) == (E:Int)) = true:=by simp
 go_wp2_with fail;refine HS4.out.mono ?_; rintro e w5 ⟨rfl,hb1⟩;have HB5:=zh (zqaa HB4.out hb1);clear hb1 HS4 HB4;go_wp2_with fail;refine (HSp.out _ HB5.out).mono ?_; rintro e w6 ⟨rfl,hb1⟩;have HB6:=zh (zqaa HB5.out hb1);clear hb1 HSp HB5;go_wp2_with fail;refine (HSr.out _ HB6.out).mono ?_; rintro e w7 ⟨rfl,hb1⟩;have HB7:=zh (zqaa HB6.out hb1);clear hb1 HSr HB6;cases sm
 ·go_wp2_with fail;go_wp2_with fail;refine (HA.out _ HB7.out).mono ?_; rintro e wA ⟨rfl,hbA⟩;have HBA:=zh (zqaa HB7.out hbA);clear hbA;go_wp2_with fail;go_ret;exact ⟨rfl,HBA.out⟩
 ·go_wp2_with fail;go_wp2_with fail;refine (HA.out _ HB7.out).mono ?_; rintro e wA ⟨rfl,hbA⟩;have HBA:=zh (zqaa HB7.out hbA);clear hbA;go_wp2_with fail;go_ret;exact ⟨rfl,HBA.out⟩
set_option maxRecDepth 100000 in
theorem lifted (os:Os) (started:os.Started) (H:Type) (enc:TypeId × Value → H) :
  ReturnsInHanded {} Tryz.checked os 5 .any (fun w args => (Rows.cellsMergeSpec.pre enc Tryz.prog Tryz.f5 [] false w args ∧ laidMetH Tryz.prog laid3 w) ∧ sizedMet enc Tryz.prog Tryz.f5 (OpenSpec.ofChange Rows.cellsMergeSpec) false w args)
   (Rows.cellsMergeSpec.post enc Tryz.prog Tryz.f5 false true false false):=by
 refine returnsInHanded_of_change_and (C:=Tryz.checked) (X:=fun w _ => laidMetH Tryz.prog laid3 w) (fun _ _ _ hh h => h.of_heap hh) own2 started (by kernel_rfl) Tryz.func5
  (ChangeSpec.witness_shaped (enc:=enc) (C:=Tryz.checked) (os:=os) (X:=fun w _ => laidMetH Tryz.prog laid3 w) false (World.doorLaid Tryz.prog 800 os) #[.slice none 0 0,.slice none 0 0] 8 rfl (World.shaped_of_RefB (by kernel_rfl) (by kernel_rfl)) (by kernel_rfl) (by kernel_rfl) (by kernel_rfl) (zqsp os _)) ?_
 intro W base args ds gs before hval0 hW _ _ hL _;have hTab:=zqzn hL;have hTab64:=zqu2 hL;have hval:∀ (j:Nat) t v,Tryz.f5.params[j]? = some t → args[j]? = some v → Value.okWide Tryz.prog W .any base t v:=hval0
 have hW':=hW;obtain ⟨p,q,hA0,hV,rfl,hfz,hnd⟩:=hW;have hA:DataW.TrodAll enc Tryz.prog W 0 (fun _ => true) true Tryz.f5.params.toList args.toList ds p:=hA0
 rw [Tryz.params5] at hA hval;obtain ⟨v0,vs0,d0,ds0,p0,q0,hargs,rfl,rfl,h0,r0⟩:=trodAll_cons hA;obtain ⟨v1,vs1,d1,ds1,p1,q1,rfl,rfl,rfl,h1,r1⟩:=trodAll_cons r0;obtain ⟨rfl,rfl,rfl⟩:=trodAll_nil r1;obtain rfl:args = #[v0,v1]:=by cases args; simp_all
 obtain ⟨rfl,rfl⟩:=trodVars_none hV;have k0:=h0;have lt0:∀ x ∈ p0,x.block < W.heap.size:=by obtain ⟨m,hm⟩:=k0; exact DataW.trod_lt m _ _ _ hm
 obtain ⟨a0,len0,cap0,rfl⟩:=okWide_slice Tryz.underlying28 (hval 0 28 v0 rfl rfl);obtain ⟨l0,s0,w0⟩:=zqsh h0 ⟨_,_,_,rfl⟩;have k1:=h1;have lt1:∀ x ∈ p1,x.block < W.heap.size:=by obtain ⟨m,hm⟩:=k1; exact DataW.trod_lt m _ _ _ hm
 obtain ⟨a1,len1,cap1,rfl⟩:=okWide_slice Tryz.underlying28 (hval 1 28 v1 rfl rfl);obtain ⟨l1,s1,w1⟩:=zqsh h1 ⟨_,_,_,rfl⟩;clear hA0 hval0;refine (walk (.slice a0 len0 cap0) l0 (.slice a1 len1 cap1) l1 W s0 w0 s1 w1 hTab hTab64).mono fun e W' ⟨he,bel⟩ => ?_
 subst he;exact ⟨_,rfl,_,_,_,[],_,[],hW',trodAll_mk1 (shut_bool Tryz.underlying4 _),(trodAll_cons_mk (Below.trod laidOut2 (by kernel_rfl) (of_decide_eq_true (by kernel_rfl)) k0 bel lt0) (trodAll_cons_mk (Below.trod laidOut2 (by kernel_rfl) (of_decide_eq_true (by kernel_rfl)) k1 bel lt1) trodAll_mk0)),rfl,bel.frame _,fun h => by cases h⟩
theorem over:Rows.cellsMergeRow.holds Tryz.pinned (OpenSpec.ofChange Rows.cellsMergeSpec) :=
 OpenClaim.holds_of_wide 5 Tryz.f5 rfl rfl rfl rfl rfl rfl rfl ⟨rfl,rfl,rfl,rfl,rfl⟩ rfl rfl rfl rfl rfl (by kernel_rfl) Tryz.func5 (by kernel_rfl)
  (of_decide_eq_true (by kernel_rfl)) (by unfold Func.isWrapper; first | (rw [if_pos (by decide +kernel)]; kernel_rfl) | (rw [if_neg (by decide +kernel)]; exact ⟨rfl,rfl⟩))
  (fun os started H enc _ => lifted os started H enc)
theorem row_holds:Rows.CellsMergeSaid:=over
end Go.Proofs.YtmnbljijnbhghaaGreatDoor.cellsMerge
namespace Go.Proofs.YtmnbljijnbhghaaGreatDoor
theorem cellsMerge_holds:Rows.CellsMergeCardSaid :=
 Claim7.holds_tied_plain_at .later [] [.data,.data] true _ false
  cellsMerge.row_holds (fun _ h => by cases h) (by kernel_rfl) (fun _ h => by cases h) cellsMerge_row_tie rfl ⟨rfl,rfl⟩ (by kernel_rfl) rfl
  (fun f fn hf hfn => by
   obtain rfl : f = 5 := Option.some.inj ((show Tryz.prog.funcNamed "bushel/bushellaw15.CellsMerge" = some 5 by kernel_rfl).symm.trans hf) |>.symm
   obtain rfl:fn = Tryz.f5:=(Option.some.inj (Tryz.func5.symm.trans hfn)).symm;exact ⟨by kernel_rfl,fun j t ht => by
    rw [Tryz.params5] at ht;have hm:t ∈ [28,28]:=by simpa using Array.mem_of_getElem? ht
    have hall:([28,28].all fun u => !Tryz.prog.wantsStandIn u) = true:=by kernel_rfl
    exact (show Tryz.prog.wantsStandIn t = false by simpa using List.all_eq_true.1 hall t hm)⟩)
  (by kernel_rfl)
#print axioms cellsMerge_holds
end Go.Proofs.YtmnbljijnbhghaaGreatDoor
