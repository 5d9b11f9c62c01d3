/- Contracts that the law leans on: Exs Facc Keyg Faci Facm Aggw Celk Cele Celj Celp. -/
import Derived.Deep.RegionLaw
import Derived.ChangeSlices
import Derived.Deep.AppendLies
import Derived.RegionTactic
import Derived.Deep.RegionWith
import Derived.Outline
import Derived.Deep.RegionHeld3
import Derived.Laws.FloatArith
import Derived.WalkLawsBesides
import Derived.Laws.Externs
import Derived.Laws.BitsAllLaws
import Derived.Lib.Hide
import Derived.Shelf.Spec.TrailingZeros
import Derived.Laws.Bits64b
import Derived.Lib.BitFns
import Derived.Lib.Small
import Derived.Lib.Strings
import Derived.Lib.Slices
import Derived.Lib.Walk
import Derived.Deep.QuietTactic
import Derived.BigQuiet
import Derived.WalkKit
import Derived.WalkSpells
import Derived.WalkSmall
import Derived.OwnWalk
import Derived.Laws.Bits64
import Derived.Deep.Draws
import Derived.Deep.DeepCutAuto
import Derived.Deep.RegionLawGrows
import Derived.Deep.LoopGhost
import Derived.ChangeAlike
import Derived.Laws.IdiomStrings
import Derived.ProofKit
import Derived.LaidMore
import Derived.OpenShut
import Derived.Stop.Joined
import Derived.Lib.LaidTab
import Derived.Deep.CutBlock
import Derived.Lib.AppendZeros
import Derived.Maps.OwnSet
import Derived.Below
import Derived.SliceStrings
import Derived.Lib.ItoaNum
import Derived.Lib.Bytealg
import Derived.Laws.BytesArg
import Derived.Deep.Slices
import Derived.Deep.Fields
import Derived.ChangeSame
import Derived.Lib.SmallJoins
import Derived.Lib.ConvBytes
import Derived.Laws.CopyRow
import Derived.Laws.IdiomCopy
import Derived.Laws.OwnMore
import Derived.Laws.MakeOwn
import Derived.Deep.RegionHeld
import Derived.Deep.DrawnRows
import Derived.Deep.CutRange
import Derived.Test.YtmnbljijnbhghaaGreatDoorProg
import Derived.Test.YtmnbljijnbhghaaGreatDoorRows
import Derived.Test.YtmnbljijnbhghaaGreatDoorPf01
import Derived.Test.YtmnbljijnbhghaaGreatDoorPf02
import Derived.Test.YtmnbljijnbhghaaGreatDoorPt01
import Derived.Test.YtmnbljijnbhghaaGreatDoorPt02
import Derived.Test.YtmnbljijnbhghaaGreatDoorPt03
import Derived.Test.YtmnbljijnbhghaaGreatDoorPt04
import Derived.Test.YtmnbljijnbhghaaGreatDoorPt05
import Derived.Test.YtmnbljijnbhghaaGreatDoorPt06
import Derived.Test.YtmnbljijnbhghaaGreatDoorPt07
import Derived.Test.YtmnbljijnbhghaaGreatDoorPt08
import Derived.Test.YtmnbljijnbhghaaGreatDoorPt09
import Derived.Test.YtmnbljijnbhghaaGreatDoorPt10
import Derived.Test.YtmnbljijnbhghaaGreatDoorPt11
import Derived.Test.YtmnbljijnbhghaaGreatDoorPt12
import Derived.Test.YtmnbljijnbhghaaGreatDoorPt13
import Derived.Test.YtmnbljijnbhghaaGreatDoorPt14
import Derived.Test.YtmnbljijnbhghaaGreatDoorPt15
import Derived.Test.YtmnbljijnbhghaaGreatDoorPt16
import Derived.Test.YtmnbljijnbhghaaGreatDoorPt17
import Derived.Test.YtmnbljijnbhghaaGreatDoorPt18
import Derived.Test.YtmnbljijnbhghaaGreatDoorPt19
import Derived.Test.YtmnbljijnbhghaaGreatDoorPt20
import Derived.Test.YtmnbljijnbhghaaGreatDoorPt21
import Derived.Test.YtmnbljijnbhghaaGreatDoorPt22
import Derived.Test.YtmnbljijnbhghaaGreatDoorPt23
import Derived.Test.YtmnbljijnbhghaaGreatDoorPt24
import Derived.Test.YtmnbljijnbhghaaGreatDoorPt25
import Derived.Test.YtmnbljijnbhghaaGreatDoorPt26
import Derived.Test.YtmnbljijnbhghaaGreatDoorPt27
import Derived.Test.YtmnbljijnbhghaaGreatDoorPt28
import Derived.Test.YtmnbljijnbhghaaGreatDoorPt29
import Derived.Test.YtmnbljijnbhghaaGreatDoorPt30
namespace Go.Proofs.YtmnbljijnbhghaaGreatDoor
set_option maxRecDepth 100000
open Go.RowKit
set_option linter.unusedVariables false
theorem kinds (x:Nat):kindI x = 1 ∨ (kindI x = 3 ∧ flagN x = 1 ∧ belowB x = false) ∨ (kindI x = 2 ∧ flagN x = 2 ∧ belowB x = false) ∨ (kindI x = 2 ∧ flagN x = 4 ∧ belowB x = true) ∨ (kindI x = 0 ∧ flagN x = 16 ∧ belowB x = false) ∨ (kindI x = 0 ∧ flagN x = 8 ∧ belowB x = true):=by
 unfold kindI flagN belowB;cases isNaNB x <;> cases isInfB x <;> cases isZeroB x <;> cases negB x <;> simp
theorem zxbz (w:World) (v:Value) (f x:Nat) (s:Int) (h:SumV w v f s) (hx:W64 x) (hr:Fits (s + unitsI x)) :
  Calls Tryz.prog 150 #[v,.float .f64 x] w (RJoinP (f ||| flagN x) (s + unitsI x) true w):=by
 rcases kinds x with hk | ⟨hk,hf,hb⟩ | ⟨hk,hf,hb⟩ | ⟨hk,hf,hb⟩ | ⟨hk,hf,hb⟩ | ⟨hk,hf,hb⟩
 ·rw [zqmv hx hk];exact zxb0 w v f x _ s _ true h hx hk (fun w1 v1 v2 h1 h2 => zqrn w1 v1 v2 f 16 s (unitsI x) h1 h2 hr)
 all_goals rw [zqhs (by omega),Int.add_zero,hf]
 ·exact zxb1 w v f x s h hx hk hb
 ·exact zxa0 w v f x s h hx hk hb
 ·exact zxaz w v f x s h hx hk hb
 ·exact zxaw w v f x s h hx hk hb
 ·exact zxav w v f x s h hx hk hb
theorem bits0:bitB 0 0 = false ∧ bitB 0 1 = false ∧ bitB 0 2 = false ∧ bitB 0 3 = false ∧ bitB 0 4 = false:=by decide
theorem isNum0 {w:World}:IsNum w (.agg #[.bool false,.slice none 0 0]) 0:=zqqv
theorem zxax (w:World):SumBox (w.alloc (.cells #[.bool false,.bool false,.bool false,.bool false,.bool false,.bool false,.slice none 0 0] 117)) w.heap.size 0 0 :=
 ⟨false,none,0,0,by rw [bits0.1,bits0.2.1,bits0.2.2.1,bits0.2.2.2.1,bits0.2.2.2.2]; exact heap_alloc_new w _,isNum0,zqs4⟩
def ROfP (xs:List Nat) (w:World) (e:Ending) (w':World):Prop:=(∃ v,e = .returned v ∧ SumV w' v (totF xs) (totT xs)) ∧ Below w.heap.size w w'
set_option maxHeartbeats 8000000 in
theorem zxb3 (v:Value) (xs:List Nat) (w:World) (hv:Flts w v xs) (hl:xs.length ≤ 900) :
  Calls Tryz.prog 103 #[v] w (ROfP xs w):=by
 have HF:=zh (zxar hv.2);have HV:=zh (fun w1 (h:Below w.heap.size w w1) => hv.below h)
 have HW:=zh hv.2;obtain ⟨p,c,rfl⟩:=hv.shape;obtain ⟨n,hn⟩:∃ n,xs.length = n:=⟨_,rfl⟩
 rw [hn] at HF hl HV ⊢;have Hn:=zh hn;have h1:=zqab w (.cells #[.bool false,.bool false,.bool false,.bool false,.bool false,.bool false,.slice none 0 0] 117);have h2:=zxax w;have h3:=zxax (w.alloc (.cells #[.bool false,.bool false,.bool false,.bool false,.bool false,.bool false,.slice none 0 0] 117));have h4:=zqab (w.alloc (.cells #[.bool false,.bool false,.bool false,.bool false,.bool false,.bool false,.slice none 0 0] 117)) (.cells #[.bool false,.bool false,.bool false,.bool false,.bool false,.bool false,.slice none 0 0] 117);have H0:=zh (And.intro (h2.below h4) (And.intro (show SumBox _ (w.heap.size + 1) 0 0 by simpa using h3) (zqaa h1 h4)))
 clear hv hn h1 h2 h3 h4;unfold ROfP;go_enter Tryz.func103,Tryz.ntmps103;go_wp2_with fail;go_loopw [4] (fun i wr => ∃ k:Nat,k ≤ n ∧ i = .int .i64 k ∧ Hid (SumBox wr w.heap.size 0 0) ∧ Hid (SumBox wr (w.heap.size + 1) (totF (xs.take k)) (totT (xs.take k))) ∧ Hid (Below w.heap.size w wr)) (fun i _ => n - (intOf i).toNat)
 case atStart => exact ⟨0,Nat.zero_le _,rfl,zh H0.out.1,zh (by rw [List.take_zero]; exact H0.out.2.1),zh H0.out.2.2⟩
 case round =>
  obtain ⟨k,hk,rfl,hr0,hs0,hb⟩:=hrel
  by_cases hlt:k < n
  ·obtain ⟨b,off,hp,hbl,hcell⟩:=(HV.out wr hb.out).cell (i:=k) (by rw [Hn.out]; omega)
   have hfe:=HF.out (k + 1) (by omega)
   have hx:=HW.out k;have ht:=zxaq xs k (by rw [Hn.out]; omega)
   generalize xs.getD k 0 = x at *;rw [ht,zxak] at hfe;have hfit:=hfe.fits (by omega)
   have hs:=hs0.out;obtain ⟨nb,q,ql,qc,hh,hnum,hg⟩:=hs;have HA:=zh (fun w1 (h:Below wr.heap.size wr w1) => zxbz w1 (.agg #[.bool (bitB (totF (xs.take k)) 0),.bool (bitB (totF (xs.take k)) 1),.bool (bitB (totF (xs.take k)) 2),.bool (bitB (totF (xs.take k)) 3),.bool (bitB (totF (xs.take k)) 4),.bool nb,.slice q ql qc]) (totF (xs.take k)) x (totT (xs.take k)) ⟨nb,q,ql,qc,rfl,hnum.below h,hg⟩ hx hfit)
   rw [← zxbq,← zxak,← ht] at HA;unfold RJoinP at HA;obtain ⟨⟨a0,a1,a2,a3,a4,a5,a6⟩,-⟩:=zqad hh;subst hp;have Hbw:=zh hb.out;generalize hf5:totF (xs.take k) = F5 at *;generalize hf6:totF (xs.take (k + 1)) = F6 at *;have HF6:=zh hf6;have HH:=zh hh;clear hfe hfit ht hbl hh hnum hg H0 hx hf5 hf6;go_upto_region 5 with fail;have e0:wr.drew.cell? ⟨w.heap.size + 1,0,none⟩ = some (.bool (bitB F5 0)):=by simp [a0]
   have e1:wr.drew.cell? ⟨w.heap.size + 1,1,none⟩ = some (.bool (bitB F5 1)):=by simp [a1]
   have e2:wr.drew.cell? ⟨w.heap.size + 1,2,none⟩ = some (.bool (bitB F5 2)):=by simp [a2]
   have e3:wr.drew.cell? ⟨w.heap.size + 1,3,none⟩ = some (.bool (bitB F5 3)):=by simp [a3]
   have e4:wr.drew.cell? ⟨w.heap.size + 1,4,none⟩ = some (.bool (bitB F5 4)):=by simp [a4]
   have e5:wr.drew.cell? ⟨w.heap.size + 1,5,none⟩ = some (.bool nb):=by simp [a5]
   have e6:wr.drew.cell? ⟨w.heap.size + 1,6,none⟩ = some (.slice q ql qc):=by simp [a6]
   have ec:wr.drew.cell? ⟨b,off + k,none⟩ = some (.float .f64 x):=by simp [hcell]
   have hBw:Below wr.heap.size wr wr.drew:=(Below.refl _ _).drew;go_region_law (first
    | (go_simp; go_at_call 150; refine (HA.out _ hBw).mono ?_; rintro e w2 ⟨⟨rv,rfl,nb2,q2,l2,c2,rfl,hn2,hg2⟩,hb2⟩; have hbd:=zqaa hBw hb2; obtain ⟨⟨c0,c1',c2',c3',c4',c5',c6'⟩,f0,f1,f2,f3,f4,f5,f6⟩:=zqad (zqaf HH.out hbd)))
   all_goals
    have hput:=SumBox.put (hs0.out.below hbd) hn2 hg2;have hg7:=grown7 w2 (w.heap.size + 1) (.bool (bitB F6 0)) (.bool (bitB F6 1)) (.bool (bitB F6 2)) (.bool (bitB F6 3)) (.bool (bitB F6 4)) (.bool nb2) (.slice q2 l2 c2);have hR:=(hr0.out.below hbd).grown (zqaf HH.out hbd) (by omega) hg7
    have hBB:=(zqaa Hbw.out hbd).grown hg7 (zqaa Hbw.out hbd).size (fun k hk => by simp only [Option.some.injEq] at hk; omega)
    have HPut:=zh hput;have HR:=zh hR;have HBB:=zh hBB;clear hput hg7 hR hBB hn2 hg2 hb2 hbd HA;go_wp2_with fail;go_roundw
    case rel => exact ⟨k + 1,by omega,by go_num,HR,zh (by rw [HF6.out]; exact HPut.out),HBB⟩
    case measure => simp [intOf]; omega
  ·obtain rfl:k = n:=by omega
   have hs:=hs0.out;rw [← Hn.out,List.take_length] at hs;obtain ⟨nb,q,ql,qc,hh,hnum,hg⟩:=hs;have hR:=hr0.out;obtain ⟨rb,rp,rl,rc,hr,-,-⟩:=hR;obtain ⟨⟨a0,a1,a2,a3,a4,a5,a6⟩,-⟩:=zqad hh;obtain ⟨⟨r0,r1,r2,r3,r4,r5,r6⟩,f0,f1,f2,f3,f4,f5,f6⟩:=zqad hr;have HR:=zh hr;have HNm:=zh hnum;have HGr:=zh hg;generalize hF7:totF xs = F7 at *;generalize hT7:totT xs = T7 at *;clear hh hnum hg hr hs0 hr0 H0;go_wp2_with fail;have hf:=set7 (a':=.bool (bitB F7 0)) (b':=.bool (bitB F7 1)) (c':=.bool (bitB F7 2)) (d':=.bool (bitB F7 3)) (e':=.bool (bitB F7 4)) (f':=.bool nb) (g':=.slice q ql qc) HR.out;have hgr:=grown7 wr (w.heap.size) (.bool (bitB F7 0)) (.bool (bitB F7 1)) (.bool (bitB F7 2)) (.bool (bitB F7 3)) (.bool (bitB F7 4)) (.bool nb) (.slice q ql qc);have hn:=HNm.out.grown HR.out (by decide) hgr
   have hbl:=hb.out.grown hgr hb.out.size (fun k hk => by simp only [Option.some.injEq] at hk; omega)
   generalize (((((((wr.setCell ⟨w.heap.size,0,none⟩ (.bool (bitB F7 0))).setCell ⟨w.heap.size,1,none⟩ (.bool (bitB F7 1))).setCell ⟨w.heap.size,2,none⟩ (.bool (bitB F7 2))).setCell ⟨w.heap.size,3,none⟩ (.bool (bitB F7 3))).setCell ⟨w.heap.size,4,none⟩ (.bool (bitB F7 4))).setCell ⟨w.heap.size,5,none⟩ (.bool nb)).setCell ⟨w.heap.size,6,none⟩ (.slice q ql qc)) = wz at *;obtain ⟨⟨k0,k1,k2,k3,k4,k5,k6⟩,-⟩:=zqad hf;exact bodyPost_ret (v:=.agg #[.bool (bitB F7 0),.bool (bitB F7 1),.bool (bitB F7 2),.bool (bitB F7 3),.bool (bitB F7 4),.bool nb,.slice q ql qc]) (by simp [results,Tryz.results103,go_sem,k0,k1,k2,k3,k4,k5,k6]) rfl ⟨⟨_,rfl,nb,q,ql,qc,by rw [hF7],by rw [hT7]; exact hn,by rw [hF7,hT7]; exact HGr.out⟩,hbl⟩
set_option maxRecDepth 100000
open Go.RowKit
set_option linter.unusedVariables false
end Go.Proofs.YtmnbljijnbhghaaGreatDoor
namespace Go.Proofs.YtmnbljijnbhghaaGreatDoor
set_option maxRecDepth 100000
open Go.RowKit
set_option linter.unusedVariables false
set_option maxRecDepth 100000
open Go.RowKit
set_option linter.unusedVariables false
set_option maxRecDepth 100000
open Go.RowKit
set_option linter.unusedVariables false
set_option maxRecDepth 100000
open Go.RowKit Go.ChangeShapes Go.WideShapes Go.Deep
set_option linter.unusedVariables false
theorem zxay {H:Type} {enc:TypeId × Value → H} {w:World} {base:Nat} {spare:Nat → Bool} {held:Bool} {fuel:Nat} {v:Value} {x:DataW H × List MemPlace} {T E:TypeId} (hT:Tryz.prog.underlying T = some (.slice E)) (hE:Tryz.prog.underlying E = some (.int .i64)) (h1:Tryz.prog.cellsOf E = 1)
  (h:DataW.trod enc Tryz.prog w base spare held fuel T [v] = some x) :
  ∃ vs,Ints .i64 w v vs ∧ (∀ d ∈ vs,-9223372036854775808 ≤ d ∧ d ≤ 9223372036854775807) ∧ vs.length ≤ 9223372036854775807:=by
 rcases open_ints hT hE h1 h with ⟨hcs,_⟩ | ⟨x,l,c,zs,hcs,_,hl,hm,hz,_,hcell,hwz⟩
 ·obtain rfl:v = .slice none 0 0:=by simpa using hcs
  exact ⟨[],⟨none,0,rfl,by simp,.inl rfl⟩,(fun _ h => by cases h),by simp⟩
 ·obtain rfl:v = .slice (some x) l c:=by simpa using hcs
  have hlz:l ≤ zs.length:=by rw [hz]; split <;> omega
  have ht:(zs.take l).length = l:=by rw [List.length_take]; omega
  refine ⟨zs.take l,⟨some x,c,by rw [ht],by omega,?_⟩,fun n hn => ?_,by rw [ht]; unfold maxLen at hm; omega⟩
  ·by_cases h0:l = 0
   ·subst h0; exact .inl (by simp)
   ·refine .inr ?_;obtain ⟨b,off,spot⟩:=x;have hc:=hcell 0 (by omega)
    have hspot:spot = none:=by simpa [Addr.add] using World.cell?_spot hc
    subst hspot;refine ⟨b,off,rfl,World.block_lt_of_cell? w _ hc,fun i hi => ?_⟩
    rw [ht] at hi;have e:(zs.take l).getD i 0 = zs.getD i 0:=by simp [List.getD,hi]
    rw [e];have hh:=hcell i (by omega)
    by_cases h0:i = 0
    ·subst h0; simpa [Addr.add] using hh
    ·simpa [Addr.add,h0] using hh
  ·have:=hwz n (List.mem_of_mem_take hn);simp [Lit.wf,IntKind.min,IntKind.max,IntKind.signed,IntKind.bits] at this;omega
theorem zxcf {H:Type} {enc:TypeId × Value → H} {w:World} {base:Nat} {spare:Nat → Bool} {held:Bool} {fuel:Nat} {v:Value} {x:DataW H × List MemPlace} {T E:TypeId} (hT:Tryz.prog.underlying T = some (.slice E)) (hE:Tryz.prog.underlying E = some (.float .f64)) (hc1:Tryz.prog.cellsOf E = 1)
  (h:DataW.trod enc Tryz.prog w base spare held fuel T [v] = some x):∃ xs,Fls w v xs ∧ (∀ x ∈ xs,W64 x) ∧ xs.length ≤ 9223372036854775807:=by
 rcases DataW.trod_slice hT h with ⟨hv,-⟩ | ⟨a,len,cap,elems,rest,n,_,hv,-,hb,hl,hm,hlen,hel,-,-⟩
 ·obtain rfl:v = .slice none 0 0:=by simpa using hv
  exact ⟨[],⟨none,0,rfl,by simp,.inl rfl⟩,(fun _ h => by cases h),by simp⟩
 obtain rfl:v = .slice (some a) len cap:=by simpa using hv
 have each:∀ i,∃ m,i < len → w.cell? (a.add i) = some (.float .f64 m) ∧ W64 m:=by
  intro i
  by_cases hi:i < len
  ·have h1:=hel i hi;rw [List.getElem?_eq_getElem (by omega),hc1,Nat.mul_one,Option.bind_eq_some_iff] at h1
   obtain ⟨cs',hcs,hy'⟩:=h1;obtain ⟨m,rfl,hw⟩:=zqnw hE hy';exact ⟨m,fun _ => ⟨cell_of_cells?_one hcs,by simpa [Lit.wf,W64] using hw⟩⟩
  ·exact ⟨0,fun h => absurd h hi⟩
 obtain ⟨q,hq⟩:=Classical.axiomOfChoice each;have hle:((List.range len).map q).length = len:=by simp
 have hget:∀ k,k < len → ((List.range len).map q).getD k 0 = q k:=fun k hk => by simp [List.getD,hk]
 refine ⟨(List.range len).map q,⟨some a,cap,by rw [hle],by rw [hle]; exact hl,?_⟩,fun d hd => ?_,by rw [hle]; unfold maxLen at hm; omega⟩
 ·by_cases h0:len = 0
  ·exact .inl (by subst h0; rfl)
  ·refine .inr ?_;obtain ⟨b,off,spot⟩:=a;have hc0:=(hq 0 (by omega)).1
   have hspot:spot = none:=by simpa [Addr.add] using World.cell?_spot hc0
   subst hspot;refine ⟨b,off,rfl,World.block_lt_of_cell? w _ hc0,fun i hi => ?_⟩
   rw [hle] at hi;rw [hget i hi];have hh:=(hq i hi).1
   by_cases h0:i = 0
   ·subst h0; simpa [Addr.add] using hh
   ·simpa [Addr.add,h0] using hh
 ·obtain ⟨k,hk,rfl⟩:=List.mem_map.1 hd;exact (hq k (by simpa using hk)).2
theorem zxbc {H:Type} {enc:TypeId × Value → H} {w:World} {base:Nat} {spare:Nat → Bool} {held:Bool} {fuel:Nat} {cs:List Value} {x:DataW H × List MemPlace} {T E0 E1 E2:TypeId} {g0 g1 g2:Field}
  (hT:Tryz.prog.underlying T = some (.struct #[g0,g1,g2])) (hc:Tryz.prog.cellsOf T = 3) (o0:g0.offset = 0) (o1:g1.offset = 1) (o2:g2.offset = 2)
  (h0:Tryz.prog.underlying g0.type = some (.slice E0)) (h1:Tryz.prog.underlying g1.type = some (.slice E1)) (h2:Tryz.prog.underlying g2.type = some (.slice E2))
  (c0':Tryz.prog.cellsOf g0.type = 1) (c1':Tryz.prog.cellsOf g1.type = 1) (c2':Tryz.prog.cellsOf g2.type = 1)
  (e0:Tryz.prog.underlying E0 = some (.int .i64)) (e1:Tryz.prog.underlying E1 = some (.int .i64)) (e2:Tryz.prog.underlying E2 = some (.float .f64))
  (d0:Tryz.prog.cellsOf E0 = 1) (d1:Tryz.prog.cellsOf E1 = 1) (d2:Tryz.prog.cellsOf E2 = 1)
  (h:DataW.trod enc Tryz.prog w base spare held fuel T cs = some x) :
  ∃ C I N f,cs = [C,I,N] ∧ Fact3 w C I N f ∧ FaWf f:=by
 obtain ⟨xs,n,-,hx,hlen,hxl,hf⟩:=DataW.trod_struct hT h;rw [hc] at hlen
 match cs,hlen with
 | [c0,c1,c2],_ =>
  match xs,hxl with
  | [y0,y1,y2],_ =>
   have q0:=hf 0 g0 rfl;have q1:=hf 1 g1 rfl;have q2:=hf 2 g2 rfl;rw [o0,c0'] at q0;rw [o1,c1'] at q1;rw [o2,c2'] at q2;obtain ⟨l0,k0,w0,m0⟩:=zxay h0 e0 d0 q0;obtain ⟨l1,k1,w1,m1⟩:=zxay h1 e1 d1 q1;obtain ⟨l2,k2,w2,m2⟩:=zxcf h2 e2 d2 q2;exact ⟨c0,c1,c2,⟨l0,l1,l2⟩,rfl,⟨k0,k1,k2⟩,⟨w0,w1,w2,m0,m1,m2⟩⟩
theorem zxbj {H:Type} {enc:TypeId × Value → H} {w:World} {base:Nat} {spare:Nat → Bool} {held:Bool} {v:Value} {d:DataW H} {p:List MemPlace} {T E:TypeId} (hT:Tryz.prog.underlying T = some (.slice E)) (hc3:Tryz.prog.cellsOf E = 3)
  (hr:∀ {fuel:Nat} {cs:List Value} {x:DataW H × List MemPlace},DataW.trod enc Tryz.prog w base spare held fuel E cs = some x → ∃ C I N f,cs = [C,I,N] ∧ Fact3 w C I N f ∧ FaWf f)
  (h:DataW.Trod enc Tryz.prog w base spare held T v d p) (hs:∃ a l c,v = .slice a l c):∃ l,Facts w v l ∧ ∀ f ∈ l,FaWf f:=by
 obtain ⟨fuel,h⟩:=h;obtain ⟨a0,l0,c0,rfl⟩:=hs;rcases open_slice hT h with ⟨hv,-⟩ | ⟨a,len,cap,m,nn,Dx,Pl,hv,-,hl,hcm,hmm,-,hi⟩
 ·simp [Value.cells] at hv;obtain ⟨rfl,rfl,rfl⟩:=hv;exact ⟨[],⟨none,0,rfl,by simp,by simp,.inl rfl⟩,fun _ h => by cases h⟩
 ·simp [Value.cells] at hv;obtain ⟨rfl,rfl,rfl⟩:=hv;have hlm:l0 ≤ m:=by rw [hmm]; split <;> omega
  have hq:∀ k,∃ f:Fa,k < l0 → ∃ C I N,(∀ j,j < 3 → w.cell? ((a.add (k * 3)).add j) = [C,I,N][j]?) ∧ Fact3 w C I N f ∧ FaWf f:=by
   intro k
   by_cases hk:k < l0
   ·obtain ⟨cs',hc,ht⟩:=hi k (by omega)
    obtain ⟨C,I,N,f,rfl,h3,hwf⟩:=hr ht;rw [hc3] at hc;obtain ⟨-,-,hat⟩:=World.cells?_some hc;exact ⟨f,fun _ => ⟨C,I,N,hat,h3,hwf⟩⟩
   ·exact ⟨⟨[],[],[]⟩,fun h => absurd h hk⟩
  obtain ⟨q,hq⟩:=Classical.axiomOfChoice hq;have hle:((List.range l0).map q).length = l0:=by simp
  have hget:∀ k (h:k < ((List.range l0).map q).length),((List.range l0).map q)[k] = q k:=fun k hk => by simp
  refine ⟨(List.range l0).map q,⟨some a,c0,by rw [hle],by rw [hle]; exact hl,by rw [hle]; unfold maxLen at hcm; omega,?_⟩,fun d hd => ?_⟩
  ·by_cases h0:l0 = 0
   ·exact .inl (by subst h0; rfl)
   ·refine .inr ?_;obtain ⟨b,off,spot⟩:=a;obtain ⟨C,I,N,hc,-⟩:=hq 0 (by omega)
    have hc:=hc 0 (by omega)
    have hspot:spot = none:=by simpa [Addr.add] using World.cell?_spot hc
    subst hspot;refine ⟨b,off,rfl,World.block_lt_of_cell? w _ hc,fun k hk => ?_⟩
    obtain ⟨C,I,N,hh,h3,-⟩:=hq k (by omega)
    have ha:(⟨b,off,none⟩:Addr).add (k * 3) = ⟨b,off + k * 3,none⟩:=by
     by_cases k0:k = 0
     ·subst k0; simp [Addr.add]
     ·have k6:¬ k * 3 = 0:=by omega
      simp only [Addr.add,if_neg k6]
    rw [ha] at hh;have h0:=hh 0 (by omega)
    have h1:=hh 1 (by omega)
    have h2:=hh 2 (by omega)
    simp only [Addr.add,if_true,Nat.one_ne_zero,if_false] at h0 h1 h2;rw [hget k hk];exact ⟨C,I,N,⟨h0,h1,by simpa using h2⟩,h3⟩
  ·obtain ⟨k,hk,rfl⟩:=List.mem_map.1 hd;obtain ⟨C,I,N,-,-,hwf⟩:=hq k (by simpa using hk)
   exact hwf
end Go.Proofs.YtmnbljijnbhghaaGreatDoor
namespace Go.Proofs.YtmnbljijnbhghaaGreatDoor
set_option maxRecDepth 100000
open Go.RowKit
set_option linter.unusedVariables false
theorem zxce (w:World) (m:Int) (n:Nat) (hn:n ≤ 31) (m0:0 ≤ m) (m1:m ≤ 4294967295) :
  Calls Tryz.prog 65 #[.int .u32 m,.int .i64 n] w fun e w' => e = .returned (.bool (bitG m n)) ∧ w = w':=zqmy w m n hn m0 m1
set_option maxHeartbeats 4000000 in
theorem zxbx (w:World) (D I M V u:Value) (S:Sc) (m:Int) (l:List Int) (h:Sch4 w D I M V S) (hu:Ints .i64 w u l) (hn:S.ds.length ≤ 31) (hl:l.length = S.ds.length) (hz:sizB S.ds = true) (hc:InG (dz S.ds) (cz l) (bitG m) S.ds.length) (m0:0 ≤ m) (m1:m ≤ 4294967295) :
  Calls Tryz.prog 100 #[SchV D I M V,.int .u32 m,u] w fun e w' => e = .returned (.int .u64 (keyG (dz S.ds) (cz l) (bitG m) S.ds.length)) ∧ Below w.heap.size w w':=by
 have HB0:=zh (zqab w (SchO D I M V));have HX:=zh (zqau w D I M V);have hd:=h.d;obtain ⟨⟨a,c,rfl⟩,⟨a2,c2,rfl⟩,⟨a3,c3,rfl⟩,a4,c4,rfl⟩:=h.slices;obtain ⟨pu,cu,rfl,hcu,-⟩:=id hu;have HU:=zh hu;obtain ⟨a',cap',e',h1,h2,h3⟩:=hd;obtain ⟨rfl,rfl⟩:a = a' ∧ c = cap':=by injection e' with e1 e2 e3; exact ⟨e1,e3⟩
 have HC:=zh h3;have HI:=zh hc;have HKn:=zh (fun k => show keyG (dz S.ds) (cz l) (bitG m) (k + 1) = if bitG m k = true then keyG (dz S.ds) (cz l) (bitG m) k * dz S.ds k + cz l k else keyG (dz S.ds) (cz l) (bitG m) k from rfl)
 have HR:=zh (zqm3 hz hc);have HZ:=zh (fun k (hk:k < S.ds.length) => zqcj hz hk)
 have HH:=zh (fun w k hk => zxce w m k hk m0 m1)
 rw [hl] at hcu HU;rw [hl];clear h h3 e' hz hc hu;go_enter Tryz.func100,Tryz.ntmps100;go_wp2_with fail;generalize hW0:w.alloc (SchO (.slice a S.ds.length c) (.slice a2 S.is.length c2) (.slice a3 S.ns.length c3) (.slice a4 S.vs.length c4)) = W0 at *;clear hW0;go_loopw [7,8] (fun pv i wr => ∃ k:Nat,k ≤ S.ds.length ∧ i = .int .i64 k ∧ (∃ p:Int,pv = .int .u64 p ∧ 0 ≤ p ∧ p ≤ 1099511627776 ∧ Hid (p = keyG (dz S.ds) (cz l) (bitG m) k)) ∧ Hid (Below w.heap.size w wr ∧ Box wr w.heap.size (.slice a S.ds.length c) (.slice a2 S.is.length c2) (.slice a3 S.ns.length c3) (.slice a4 S.vs.length c4))) (fun _ i _ => S.ds.length - (intOf i).toNat)
 case atStart => exact ⟨0,Nat.zero_le _,rfl,⟨0,rfl,by decide,by decide,zh rfl⟩,zh ⟨HB0.out,HX.out⟩⟩
 case round =>
  obtain ⟨k,hk,rfl,⟨p,rfl,hp0,hp1,HE⟩,HB⟩:=hrel;obtain ⟨x0,x1,x2,x3⟩:=HB.out.2.reads
  by_cases hlk:k < S.ds.length
  ·rcases HC.out with h3 | ⟨b,off,rfl,hlt,hcell⟩
   ·rw [h3] at hlk; simp at hlk
   obtain ⟨c0,c1⟩:=hcell k hlk;have c1:wr.cell? ⟨b,off + k * 2 + 1,none⟩ = _:=(HB.out.1.cell (p:=⟨b,off + k * 2 + 1,none⟩) hlt).trans c1;obtain ⟨b2,o2,hp2,hb2,hc2⟩:=HU.out.cell (i:=k) (by omega)
   subst hp2;have hc2:=cell_later HB.out.1 hc2;have hc3:wr.cell? ⟨b2,o2 + k,none⟩ = some (.int .i64 (cz l k)):=hc2;have HKk:=zh (HKn.out k);have hz:=HZ.out k hlk;have hr:=HR.out (k + 1) (by omega)
   have hI:=HI.out k hlk;have HHk:=zh (fun w => HH.out w k (by omega))
   have hle:Hid (k + 1 ≤ S.ds.length):=zh (by omega)
   have hlk':(k:Int) < (S.ds.length:Int):=by omega
   rw [← HE.out] at HKk;clear hc2 c0 hcell;generalize dz S.ds k = z at *;generalize cz l k = y at *
   by_cases hbit:bitG m k = true
   ·obtain ⟨y0,y1⟩:=hI hbit;rw [hbit] at HHk;rw [if_pos hbit] at HKk;have hpz:0 ≤ p * z:=Int.mul_nonneg hp0 (by omega)
    rw [HKk.out] at hr;have i1:IntKind.u64.wrap z = z:=by rw [IntKind.wrap_u64]; omega
    have i2:IntKind.u64.wrap (p * z) = p * z:=by rw [IntKind.wrap_u64]; omega
    have i3:IntKind.u64.wrap y = y:=by rw [IntKind.wrap_u64]; omega
    have i4:IntKind.u64.wrap (p * z + y) = p * z + y:=by rw [IntKind.wrap_u64]; omega
    have HE3:=zh hr;clear hr hz hpz hI hbit y0 y1;go_wp2_with fail;refine (HHk.out _).mono ?_; rintro e w1 ⟨rfl,rfl⟩;go_upto_region 6 with fail;go_quiet (fail);have HB2:=zh (And.intro (below_drewN HB.out.1 nq) (show Box (wr.drewN nq) w.heap.size _ _ _ _ from HB.out.2));go_wp2;go_roundw
    case rel => exact ⟨k + 1,hle.out,by go_num,⟨p * z + y,rfl,HE3.out.1,HE3.out.2,zh HKk.out.symm⟩,HB2⟩
    case measure => simp [intOf]; omega
   ·rw [eq_false_of_ne_true hbit] at HHk;rw [if_neg hbit] at HKk;clear hr hz hI hbit hc3 c1;go_wp2_with fail;refine (HHk.out _).mono ?_; rintro e w1 ⟨rfl,rfl⟩;go_wp2_with fail;go_roundw
    case rel => exact ⟨k + 1,hle.out,by go_num,⟨p,rfl,hp0,hp1,zh HKk.out.symm⟩,HB⟩
    case measure => simp [intOf]; omega
  ·have:k = S.ds.length:=by omega
   subst this;have HE2:=zh HE.out;clear HE;go_wp2_with fail;go_ret;rw [HE2.out];exact ⟨rfl,HB.out.1⟩
end Go.Proofs.YtmnbljijnbhghaaGreatDoor
namespace Go.Proofs.YtmnbljijnbhghaaGreatDoor
set_option maxRecDepth 100000
open Go.RowKit
set_option linter.unusedVariables false
set_option maxRecDepth 100000
open Go.RowKit
set_option linter.unusedVariables false
set_option maxRecDepth 100000
open Go.RowKit
set_option linter.unusedVariables false
def EitherB (e:Ending):Prop:=∃ b:Bool,e = .returned (.bool b)
set_option maxHeartbeats 4000000 in
theorem zxa9 (w:World) (v:Value) (l:List Fa) (h:Facts w v l) :
  Calls Tryz.prog 21 #[v] w fun e w' => EitherB e ∧ w = w':=by
 obtain ⟨a,cap,rfl,h1,hmx,h3⟩:=h;have HC:=zh h3;clear h3;go_enter Tryz.func21,Tryz.ntmps21;go_wp2_with fail;go_loopw [3] (fun i wr => ∃ k:Nat,k ≤ l.length ∧ i = .int .i64 k ∧ Hid (w = wr)) (fun i _ => l.length - (intOf i).toNat)
 case atStart => exact ⟨0,Nat.zero_le _,rfl,zh rfl⟩
 case round =>
  obtain ⟨k,hk,rfl,HD⟩:=hrel;obtain rfl:=HD.out
  by_cases hlk:k < l.length
  ·have hlk':(k:Int) < (l.length:Int):=by omega
   rcases HC.out with h3 | ⟨b,off,rfl,hlt,hc⟩
   ·rw [h3] at hlk; simp at hlk
   obtain ⟨C,I,N,hx,hf⟩:=hc k hlk;obtain ⟨⟨pa,pc,rfl⟩,⟨pa2,pc2,rfl⟩,pa3,pc3,rfl⟩:=hf.slices;obtain ⟨x0,x1,x2⟩:=hx;clear hc hf;generalize l[k].cs.length = s1 at *;generalize l[k].is.length = s2 at *;generalize l[k].ns.length = s3 at *
   by_cases c1:(20:Int) < s1
   ·have e1:decide ((20:Int) < s1) = true:=decide_eq_true c1;go_wp2_with fail;go_ret;exact ⟨⟨_,rfl⟩,rfl⟩
   ·have e1:decide ((20:Int) < s1) = false:=decide_eq_false c1
    by_cases c2:(20:Int) < s2
    ·have e2:decide ((20:Int) < s2) = true:=decide_eq_true c2;go_wp2_with fail;go_ret;exact ⟨⟨_,rfl⟩,rfl⟩
    ·have e2:decide ((20:Int) < s2) = false:=decide_eq_false c2
     by_cases c3:(20:Int) < s3
     ·have e3:decide ((20:Int) < s3) = true:=decide_eq_true c3;go_wp2_with fail;go_ret;exact ⟨⟨_,rfl⟩,rfl⟩
     ·have e3:decide ((20:Int) < s3) = false:=decide_eq_false c3;go_wp2_with fail;go_roundw
      case rel => exact ⟨k + 1,by omega,by go_num,zh True.intro⟩
      case measure => simp [intOf]; omega
  ·have hke:k = l.length:=by omega
   subst hke;go_wp2_with fail;go_ret;exact ⟨⟨_,rfl⟩,rfl⟩
end Go.Proofs.YtmnbljijnbhghaaGreatDoor
namespace Go.Proofs.YtmnbljijnbhghaaGreatDoor
set_option maxRecDepth 100000
open Go.RowKit
set_option linter.unusedVariables false
set_option maxHeartbeats 8000000 in
theorem zxbo (w:World) (D I M V C J N:Value) (S:Sc) (f:Fa) (h:Sch4 w D I M V S) (h':Fact3 w C J N f) (hf:FaWf f) :
  Calls Tryz.prog 51 #[SchV D I M V,FactV C J N] w fun e w' => e = .returned (.int .i64 (fitsL S f:Nat)) ∧ Below w.heap.size w w':=by
 obtain ⟨W,hW⟩:∃ W,(w.alloc (SchO D I M V)).alloc (FaO C J N) = W:=⟨_,rfl⟩
 obtain ⟨hb,hx,hx'⟩:=zqnn w D I M V C J N W hW;have HB:=zh hb;have HX:=zh (And.intro hx hx');obtain ⟨⟨a,c,rfl⟩,⟨a2,c2,rfl⟩,⟨a3,c3,rfl⟩,a4,c4,rfl⟩:=h.slices;obtain ⟨⟨b,d,rfl⟩,⟨b2,d2,rfl⟩,b3,d3,rfl⟩:=h'.slices;obtain ⟨x0,x1,x2,x3⟩:=hx.reads;obtain ⟨y0,y1,y2⟩:=hx'.reads
 by_cases n1:f.cs.length = S.ds.length
 ·by_cases n2:f.is.length = S.is.length
  ·by_cases n3:f.ns.length = S.ns.length
   ·obtain ⟨a',cap',e',-,-,h3⟩:=h.d.below hb;injection e' with e1 e2 e3;subst e1 e3;have HC:=zh h3;clear h3 e2;obtain ⟨a',cap',e',-,h3⟩:=h'.c.below hb;injection e' with e1 e2 e3;subst e1 e3;have HC':=zh h3;clear h3 e2;have HY:=zh (fun h => zqsu n1 n2 n3 h)
    have HE:=zh (fun k hk h => zqwg n1 n2 n3 (k:=k) hk h)
    have HQ:=zh n1;have hl:=hf.l.1;rw [n1] at HX y0 hW ⊢;rw [n2] at HX y1 hW ⊢;rw [n3] at HX y2 hW ⊢;rw [n1] at HC' HY hl;clear h h' hb hx hx' hf n1 n2 n3;generalize ((fitsL S f:Nat):Int) = R at *;go_enter Tryz.func51,Tryz.ntmps51;go_wp2_with fail;clear x0 x1 x2 x3 y0 y1 y2 hW;go_loopw [5] (fun i wr => ∃ k:Nat,k ≤ S.ds.length ∧ i = .int .i64 k ∧ Hid (Drawn W wr) ∧ Hid (∀ j,j < k → codAt S.ds f.cs j = true)) (fun i _ => S.ds.length - (intOf i).toNat)
    case atStart => exact ⟨0,Nat.zero_le _,rfl,zh (Drawn.refl _),zh (fun j hj => by omega)⟩
    case round =>
     obtain ⟨k,hk,rfl,HD,HJ⟩:=hrel;obtain ⟨x0,x1,x2,x3⟩:=(HX.out.1.below HD.out.below).reads;obtain ⟨y0,y1,y2⟩:=(HX.out.2.below HD.out.below).reads
     by_cases hlk:k < S.ds.length
     ·have hlk':(k:Int) < (S.ds.length:Int):=by omega
      have HK2:=zh (show k < f.cs.length by rw [HQ.out]; exact hlk)
      rcases HC.out with h3 | ⟨bb,off,rfl,hlt,hc⟩
      ·rw [h3] at hlk; simp at hlk
      rcases HC'.out with h3 | ⟨bb',off',rfl,hlt',hc'⟩
      ·have hn:=HK2.out; rw [h3] at hn; simp at hn
      have hx:=(HD.out.below.cell (p:=⟨bb,off + k * 2 + 1,none⟩) hlt).trans (hc k hlk).2;have hx':=(HD.out.below.cell (p:=⟨bb',off' + k,none⟩) hlt').trans (hc' k hlk);have HN:=zh (fun n => HD.out.next n)
      have HE2:=zh (fun h => HE.out k HK2.out h)
      clear hc hc'
      by_cases c1:f.cs.getD k 0 < 0
      ·have hR:=HE2.out (zqzx c1);subst hR;have e1:decide (f.cs.getD k 0 < 0) = true:=decide_eq_true c1;generalize f.cs.getD k 0 = x at hx' c1 e1;generalize dz S.ds k = z at hx;go_upto_region 6 with fail;go_quiet (fail);have HD2:=zh (HN.out nq);go_wp2;go_ret;exact ⟨rfl,zqaa HB.out HD2.out.below⟩
      ·by_cases c2:dz S.ds k ≤ f.cs.getD k 0
       ·have hR:=HE2.out (zqzw c2);subst hR;have e1:decide (f.cs.getD k 0 < 0) = false:=decide_eq_false c1;have e2:decide (dz S.ds k ≤ f.cs.getD k 0) = true:=decide_eq_true c2;generalize f.cs.getD k 0 = x at hx' c1 e1 c2 e2;generalize dz S.ds k = z at hx c2 e2;go_upto_region 6 with fail;go_quiet (fail);have HD2:=zh (HN.out nq);go_wp2;go_ret;exact ⟨rfl,zqaa HB.out HD2.out.below⟩
       ·have HJ2:=zh (zqu8 HJ.out (zqzy c1 c2));have e1:decide (f.cs.getD k 0 < 0) = false:=decide_eq_false c1;have e2:decide (dz S.ds k ≤ f.cs.getD k 0) = false:=decide_eq_false c2;generalize f.cs.getD k 0 = x at hx' c1 e1 c2 e2;generalize dz S.ds k = z at hx c2 e2;go_upto_region 6 with fail;go_quiet (fail);have HD2:=zh (HN.out nq);go_wp2;go_roundw
        case rel => exact ⟨k + 1,by omega,by go_num,HD2,HJ2⟩
        case measure => simp [intOf]; omega
     ·have hke:k = S.ds.length:=by omega
      subst hke;have hR:=HY.out HJ.out;subst hR;go_wp2_with fail;go_ret;exact ⟨rfl,zqaa HB.out HD.out.below⟩
   ·rw [zqh4 (.inr (.inr n3))];have e1:((f.cs.length:Int) != (S.ds.length:Int)) = false:=by rw [n1]; simp
    have e2:((f.is.length:Int) != (S.is.length:Int)) = false:=by rw [n2]; simp
    have e3:((f.ns.length:Int) != (S.ns.length:Int)) = true:=by simp; omega
    clear h h' hb hx hx' hf n1 n2 n3;go_enter Tryz.func51,Tryz.ntmps51;go_wp2_with fail;go_ret;exact ⟨rfl,HB.out⟩
  ·rw [zqh4 (.inr (.inl n2))];have e1:((f.cs.length:Int) != (S.ds.length:Int)) = false:=by rw [n1]; simp
   have e2:((f.is.length:Int) != (S.is.length:Int)) = true:=by simp; omega
   clear h h' hb hx hx' hf n1 n2;go_enter Tryz.func51,Tryz.ntmps51;go_wp2_with fail;go_ret;exact ⟨rfl,HB.out⟩
 ·rw [zqh4 (.inl n1)];have e1:((f.cs.length:Int) != (S.ds.length:Int)) = true:=by simp; omega
  clear h h' hb hx hx' hf n1;go_enter Tryz.func51,Tryz.ntmps51;go_wp2_with fail;go_ret;exact ⟨rfl,HB.out⟩
set_option maxRecDepth 100000
open Go.RowKit
set_option linter.unusedVariables false
set_option maxRecDepth 100000
open Go.RowKit
set_option linter.unusedVariables false
set_option maxRecDepth 100000
open Go.RowKit
set_option linter.unusedVariables false
end Go.Proofs.YtmnbljijnbhghaaGreatDoor
namespace Go.Proofs.YtmnbljijnbhghaaGreatDoor
set_option maxRecDepth 100000
open Go.RowKit
set_option linter.unusedVariables false
theorem zxag (a:List Int):∀ k i,i < k → ∀ j,j < 4 → (topB a k).getD (4 * i + j) 0 = (b4 (a.getD (a.length - 1 - i) 0)).getD j 0
 | 0,i,hi,_,_ => by omega
 | k + 1,i,hi,j,hj => by
  rw [zqck]
  by_cases e:i = k
  ·subst e;simp only [List.getD,List.getElem?_append,zqef];rw [if_neg (by omega),show 4 * i + j - 4 * i = j by omega]
  ·have ih:=zxag a k i (by omega) j hj
   simp only [List.getD,List.getElem?_append,zqef] at ih ⊢;rw [if_pos (by omega)]
   exact ih
theorem zxa6 {a:List Int} (h:Wd a) {k i:Nat} (hi:i < k):wAt (topB a k) i = a.getD (a.length - 1 - i) 0:=by
 have hr:=h.getD (a.length - 1 - i);unfold wAt;rw [show 4 * i = 4 * i + 0 by omega,zxag a k i hi 0 (by decide),show 4 * i + 0 + 1 = 4 * i + 1 by omega,zxag a k i hi 1 (by decide),show 4 * i + 0 + 2 = 4 * i + 2 by omega,zxag a k i hi 2 (by decide),show 4 * i + 0 + 3 = 4 * i + 3 by omega,zxag a k i hi 3 (by decide)]
 generalize a.getD (a.length - 1 - i) 0 = x at *;show ((x / 16777216 * 256 + x / 65536 % 256) * 256 + x / 256 % 256) * 256 + x % 256 = x
 omega
theorem bit4:∀ f,f < 32 → f.testBit 4 = true → f / 16 % 2 = 1:=by decide
theorem zxa4 {f:Nat} {t:Int} {l:List Int} (hg:Good f t) (h:IsEnc f t l):errN l = 0:=by
 obtain ⟨a,hd,ht,hv,hl,rfl⟩:=h;obtain ⟨hf,h4,-⟩:=hg;have hlow:=zqc1 a;have ha:a ≠ [] → t ≠ 0:=by
  intro hne e;subst e;exact hne (zqbb hd Wd.nil ht (.inl rfl) (by rw [hv]; simp [wv,wvN]))
 have ha2:a ≠ [] → f / 16 % 2 = 1:=fun hne => bit4 f hf (h4 (ha hne))
 have hneg:t < 0 → f / 16 % 2 = 1:=fun hn => bit4 f hf (h4 (by omega))
 have hnil:a.length - lowW a = 0 → a = []:=by
  intro e
  by_cases hne:a = []
  ·exact hne
  ·have:=zqyt ht hne; omega
 have hx:∃ x:Nat,(f:Int) + (if decide (t < 0) = true then 32 else 0) = (x:Int) ∧ x ≤ 63 ∧ x / 16 % 2 = f / 16 % 2 ∧ (x / 32 = 1 ↔ t < 0):=by
  by_cases hn:t < 0
  ·exact ⟨f + 32,by simp [hn],by omega,by omega,by constructor <;> intro _ <;> omega⟩
  ·exact ⟨f,by simp [hn],by omega,by omega,by constructor <;> intro _ <;> omega⟩
 obtain ⟨x,hx1,hx2,hx3,hx4⟩:=hx;unfold errN encB;rw [hx1];have g0:([(x:Int),(lowW a:Int),(a.length:Int) - lowW a] ++ topB a (a.length - lowW a)).getD 0 0 = x:=rfl;have g1:([(x:Int),(lowW a:Int),(a.length:Int) - lowW a] ++ topB a (a.length - lowW a)).getD 1 0 = lowW a:=rfl;have g2:([(x:Int),(lowW a:Int),(a.length:Int) - lowW a] ++ topB a (a.length - lowW a)).getD 2 0 = (a.length:Int) - lowW a:=rfl;have g3:([(x:Int),(lowW a:Int),(a.length:Int) - lowW a] ++ topB a (a.length - lowW a)).drop 3 = topB a (a.length - lowW a):=rfl;have gl:([(x:Int),(lowW a:Int),(a.length:Int) - lowW a] ++ topB a (a.length - lowW a)).length = 3 + 4 * (a.length - lowW a):=by simp [zqef]; omega
 have b0:bad0 (x:Int) = false:=by
  unfold bad0;simp only [Bool.or_eq_false_iff,Bool.and_eq_false_iff,decide_eq_false_iff_not];refine ⟨by omega,?_⟩
  by_cases hn:t < 0
  ·right; have:=hneg hn; omega
  ·left; intro e; exact hn (hx4.1 (by omega))
 have b1:bad1 (x:Int) (lowW a:Int) = false:=by
  unfold bad1;simp only [Bool.or_eq_false_iff,Bool.and_eq_false_iff,decide_eq_false_iff_not]
  by_cases hne:a = []
  ·subst hne; simp [lowW]
  ·have h1:=zqyt ht hne;have h2:=ha2 hne;exact ⟨by omega,.inr (by omega)⟩
 have b2:bad2 (x:Int) (lowW a:Int) ((a.length:Int) - lowW a) = false:=by
  unfold bad2;simp only [Bool.or_eq_false_iff,Bool.and_eq_false_iff,decide_eq_false_iff_not]
  by_cases hne:a = []
  ·subst hne;have ht0:¬ t < 0:=by
    have:wv ([]:List Int) = 0:=by simp [wv,wvN]
    rw [this] at hv; omega
   refine ⟨⟨by simp [lowW],.inl (by simp [lowW])⟩,.inr ⟨by simp [lowW],fun e => ht0 (hx4.1 (by omega))⟩⟩
  ·have h1:=zqyt ht hne;have h2:=ha2 hne;exact ⟨⟨by omega,.inr (by omega)⟩,.inl (by omega)⟩
 rw [g0,g1,g2,g3,gl,b0,b1,b2];rw [if_neg (by omega),if_neg (by decide),if_neg (by omega),if_neg (by decide),if_neg (by omega),if_neg (by decide)]
 have hn:((a.length:Int) - lowW a).toNat = a.length - lowW a:=by omega
 rw [hn];refine zqsb (by rw [zqef]) (fun h0 => ?_)
 have hne:a ≠ []:=by intro e; subst e; simp at h0
 refine ⟨?_,?_⟩
 ·rw [zxa6 hd h0,Nat.sub_zero];exact ht.resolve_left hne
 ·rw [zxa6 hd (by omega),show a.length - 1 - (a.length - lowW a - 1) = lowW a by omega]
  exact zqg4 a (by omega)
theorem OW.right {x:Int} {z:Wh} (h:OW x z) (hx:I64 x):rightW z = true:=by
 have hl:=h.len hx;unfold rightW;rw [h.abs,h.sum,h.mn,h.mx,zqlx.2 h.ty];simp only [Bool.and_true,Bool.and_eq_true,decide_eq_true_eq];refine ⟨⟨⟨⟨?_,?_⟩,?_⟩,?_⟩,?_⟩ <;> omega
theorem zxbn (x:Nat):lessB x x = false:=by simp [lessB]
theorem OR.right {x:Nat} {z:Re} (h:OR x z) (hx:W64 x):rightR z = true:=by
 unfold rightR;rw [zxa4 (zqmx x hx) h.sum,h.mn,h.mx,zxbn]
 rfl
theorem OC.right {S:Sc} {m:Int} {f:Fa} {c:Ce} (h:OC S m f c) (hf:FaWf f) (h0:oneE S m f = 0):rightC S m c = true:=by
 obtain ⟨q1,q2,q3,q4⟩:=zqpp h0;obtain ⟨o1,o2,o3⟩:=zqz8 q3;obtain ⟨f1,f2,f3,f4⟩:=zqph q2;have hz:=(zqeb q1).2;have hk:c.key < keysL S.ds m S.ds.length:=by
  rw [h.key,zqh8];unfold ofL;rw [if_pos q3];exact (zqjc (fun j hj => zqdg hz j (by omega)) (fun j hj hp => o3 j (by omega) hp)).2
 unfold rightC validC;rw [zqmh (fun k hk => (h.is k (by rw [← h.li]; exact hk)).right (zqd4 (P:=I64) hf.i (by rw [← h.li]; exact hk))),zqmg (fun k hk => (h.ns k (by rw [← h.ln]; exact hk)).right (zqd4 (P:=W64) hf.n (by rw [← h.ln]; exact hk)))]
 simp only [Bool.and_true,Bool.and_eq_true,decide_eq_true_eq];exact ⟨⟨q1,(zqg5 o1).2⟩,⟨⟨hk,by rw [h.cnt]; decide⟩,by rw [h.li,f2]⟩,by rw [h.ln,f3]⟩
end Go.Proofs.YtmnbljijnbhghaaGreatDoor
namespace Go.Proofs.YtmnbljijnbhghaaGreatDoor
set_option maxRecDepth 100000
open Go.RowKit
set_option linter.unusedVariables false
section
variable {P : Program} (w : World)
end
theorem zxai:∀ {ps:List (Value × Value × Ce)},(∀ p ∈ ps,p.1.oneCell' = true ∧ p.2.1.oneCell' = true) → ∀ u ∈ cellsC ps,u.oneCell' = true
 | [],_,u,hu => by cases hu
 | p :: ps,h,u,hu => by
  rcases List.mem_append.1 hu with hu | hu
  ·have:=h p (List.mem_cons_self ..);simp only [rowC,List.mem_cons,List.not_mem_nil,or_false] at hu;rcases hu with rfl | rfl | rfl | rfl
   ·rfl
   ·rfl
   ·exact this.1
   ·exact this.2
  ·exact zxai (fun q hq => h q (List.mem_cons_of_mem _ hq)) u hu
theorem zxad {w:World} {ps:List (Value × Value × Ce)} (h:∀ p ∈ ps,CeM w p.1 p.2.1 p.2.2):∀ u ∈ cellsC ps,u.oneCell' = true:=zxai fun p hp => (h p hp).ones
end Go.Proofs.YtmnbljijnbhghaaGreatDoor
namespace Go.Proofs.YtmnbljijnbhghaaGreatDoor
set_option maxRecDepth 100000
open Go.RowKit
set_option linter.unusedVariables false
set_option maxHeartbeats 8000000 in
theorem zxa2 (w:World) (u v:Value) (l m:List Ce) (hu:Cells w u l) (hv:Cells w v m) (hw:LsW l) (hw':LsW m) :
  Calls Tryz.prog 24 #[u,v] w fun e w' => e = .returned (.bool (eqsC l m)) ∧ Below w.heap.size w w':=by
 have HU:=zh hu;have HV:=zh hv;have HW:=zh (fun k (hk:k < l.length) => hw.cg hk)
 have HW':=zh (fun k (hk:k < m.length) => hw'.cg hk)
 obtain ⟨a,cap,rfl,-,hmx,-⟩:=hu;obtain ⟨a',cap',rfl,-,-,-⟩:=hv
 by_cases hl:l.length = m.length
 ·have HY:=zh (fun (h:∀ k,k < l.length → sameC (cg l k) (cg m k) = true) => show eqsC l m = true by unfold eqsC; rw [decide_eq_true hl,Bool.true_and]; exact List.all_eq_true.2 fun x hx => h x (by simpa using hx))
  have HN:=zh (fun k (hk:k < l.length) (h:sameC (cg l k) (cg m k) = false) => show eqsC l m = false by unfold eqsC; rw [decide_eq_true hl,Bool.true_and]; exact List.all_eq_false.2 ⟨k,by simpa using hk,by simp [h]⟩)
  have hnn:((l.length:Int) != (m.length:Int)) = false:=by simp [hl]
  have HL:=zh hl;generalize eqsC l m = R at *;clear hw hw' hl;go_enter Tryz.func24,Tryz.ntmps24;go_wp2_with fail;go_loopw [5] (fun iv wr => ∃ k:Nat,k ≤ l.length ∧ iv = .int .i64 k ∧ Hid (Below w.heap.size w wr ∧ ∀ j,j < k → sameC (cg l j) (cg m j) = true)) (fun iv _ => l.length - (intOf iv).toNat)
  case atStart => exact ⟨0,Nat.zero_le _,rfl,zh ⟨Below.refl _ _,fun j hj => by omega⟩⟩
  case round =>
   obtain ⟨k,hk,rfl,HS⟩:=hrel
   by_cases hlk:k < l.length
   ·have hlk':(k:Int) < (l.length:Int):=by omega
    have hkb0:k < m.length:=by have:=HL.out; omega
    have hkb:(k:Int) < (m.length:Int):=by omega
    have hle:Hid (k + 1 ≤ l.length):=zh (by omega)
    obtain ⟨ba,oa,rfl,-,I,N,hqa⟩:=(HU.out.below HS.out.1).at hlk;obtain ⟨bb,ob,rfl,-,J,M,hqb⟩:=(HV.out.below HS.out.1).at hkb0;have HWx:=HW.out k hlk;have HWy:=HW'.out k hkb0;have HNk:=zh (fun h => HN.out k hlk h)
    have HSn:=zh (fun (h:sameC (cg l k) (cg m k) = true) j (hj:j < k + 1) => show sameC (cg l j) (cg m j) = true from if e:j = k then e ▸ h else HS.out.2 j (by omega))
    have HBk:=zh HS.out.1;generalize cg l k = x at *;generalize cg m k = y at *;have HC:=zh (fun w1 (hb:Below wr.heap.size wr w1) => zqow w1 x y I N J M (hqa.m.below hb) (hqb.m.below hb) HWx HWy)
    obtain ⟨⟨p,c,rfl⟩,q,d,rfl⟩:=hqa.m.slices;obtain ⟨⟨p',c',rfl⟩,q',d',rfl⟩:=hqb.m.slices;obtain ⟨f0,f1,f2,f3,-⟩:=hqa;obtain ⟨g0,g1,g2,g3,-⟩:=hqb;clear HWx HWy HS;generalize sameC x y = T at *;obtain ⟨x0,x1,x2,x3⟩:=x;obtain ⟨y0,y1,y2,y3⟩:=y
    dsimp only at f0 f1 f2 f3 g0 g1 g2 g3
    go_upto_region 6 with fail;have hk8:wr.drew.cell? ⟨ba,oa + k * 4,none⟩ = some (.int .u64 x0) ∧ wr.drew.cell? ⟨ba,oa + k * 4 + 1,none⟩ = some (.int .i64 x1) ∧ wr.drew.cell? ⟨ba,oa + k * 4 + 2,none⟩ = some (.slice p x2.length c) ∧ wr.drew.cell? ⟨ba,oa + k * 4 + 3,none⟩ = some (.slice q x3.length d) ∧ wr.drew.cell? ⟨bb,ob + k * 4,none⟩ = some (.int .u64 y0) ∧ wr.drew.cell? ⟨bb,ob + k * 4 + 1,none⟩ = some (.int .i64 y1) ∧ wr.drew.cell? ⟨bb,ob + k * 4 + 2,none⟩ = some (.slice p' y2.length c') ∧ wr.drew.cell? ⟨bb,ob + k * 4 + 3,none⟩ = some (.slice q' y3.length d'):=⟨f0,f1,f2,f3,g0,g1,g2,g3⟩;clear f0 f1 f2 f3 g0 g1 g2 g3;have hBw:Below wr.heap.size wr wr.drew:=(Below.refl _ _).drew;go_region_held3 (fun w' => w'.cell? ⟨ba,oa + k * 4,none⟩ = some (.int .u64 x0) ∧ w'.cell? ⟨ba,oa + k * 4 + 1,none⟩ = some (.int .i64 x1) ∧ w'.cell? ⟨ba,oa + k * 4 + 2,none⟩ = some (.slice p x2.length c) ∧ w'.cell? ⟨ba,oa + k * 4 + 3,none⟩ = some (.slice q x3.length d) ∧ w'.cell? ⟨bb,ob + k * 4,none⟩ = some (.int .u64 y0) ∧ w'.cell? ⟨bb,ob + k * 4 + 1,none⟩ = some (.int .i64 y1) ∧ w'.cell? ⟨bb,ob + k * 4 + 2,none⟩ = some (.slice p' y2.length c') ∧ w'.cell? ⟨bb,ob + k * 4 + 3,none⟩ = some (.slice q' y3.length d')) (with_reducible exact hk8)
     (first | (go_at_call 18; refine (HC.out _ hBw).mono ?_; rintro e w1 ⟨rfl,hb1⟩; replace hk8:=hold8 hb1 hk8; have hBw:=zqaa hBw hb1; clear hb1))
    have HB1:=zh (zqaa HBk.out hBw);clear HC hk8 hBw;cases T with
    | true =>
     have HJ:=zh (HSn.out rfl);go_wp2_with fail;go_roundw
     case rel => exact ⟨k + 1,hle.out,by go_num,zh ⟨HB1.out,HJ.out⟩⟩
     case measure => simp [intOf]; omega
    | false =>
     have hR:=HNk.out rfl;subst hR;go_wp2_with fail;go_ret;exact ⟨rfl,HB1.out⟩
   ·have:k = l.length:=by omega
    subst this;have hR:=HY.out HS.out.2;subst hR;go_wp2_with fail;go_ret;exact ⟨rfl,HS.out.1⟩
 ·have hR:eqsC l m = false:=by unfold eqsC; rw [decide_eq_false hl]; rfl
  rw [hR];have hnn:((l.length:Int) != (m.length:Int)) = true:=by simp; omega
  clear HU HV HW HW' hw hw' hl;go_enter Tryz.func24,Tryz.ntmps24;go_wp2_with fail;go_ret;exact ⟨rfl,Below.refl _ _⟩
theorem zxbd {l:List Ce}:risingB l = true ↔ risingC l:=by
 constructor
 ·intro h;unfold risingC;rw [List.pairwise_iff_getElem];intro i j hi hj hij;have:=zqew h i j hij hj
  rwa [zqat hi,zqat hj] at this
 ·intro h;rw [zqdq];intro i hi;unfold risingC at h;rw [List.pairwise_iff_getElem] at h;rw [zqat (by omega),zqat hi]
  exact h i (i + 1) (by omega) hi (by omega)
theorem size4:∃ i,Tryz.prog.info? 38 = some i ∧ i.size = 4:=by
 obtain ⟨i0,hi,hz0,hz1,hz2⟩:=info_parts Tryz.infoCell;exact ⟨i0,hi,hz1⟩
theorem zxao {w:World} {a:Option Addr} {cap l k:Nat} (hk:k ≤ l) (hs:∃ i,Tryz.prog.info? 38 = some i ∧ i.size = 4):(Instr.slice 28 (.slice a l cap) (some (.int .i64 k)) none none).run Tryz.prog w = .ok (.slice (if cap = k then a else a.map (·.add (k * 4))) (l - k) (cap - k)) w:=by
 obtain ⟨i,hi,hs⟩:=hs;simp [Instr.slice,run_underlying Tryz.underlying28,Instr.sliceBounds,Instr.sliceBound,asIntOf,sizeOf,typeInfo,hi,hs,hk,go_sem]
def JAt (W:World) (M:Nat) (c:Ce) (I N:Value) (wx:World):Prop:=Below W.heap.size W wx ∧ W.heap.size ≤ M ∧ wx.heap[M]? = some (.cells (boxV c.key c.cnt I N) 38 (0,0)) ∧ CeOwn wx W.heap.size I N c
theorem zxca {W w3:World} {c:Ce} {I N:Value} {B:Nat} (hb:Below W.heap.size W w3) (ho:CeOwn w3 B I N c) (hB:W.heap.size ≤ B):JAt W w3.heap.size c I N (w3.alloc (CeO c I N)) :=
 ⟨zqaa hb (zqab _ _),hb.size,heap_alloc_new _ _,(ho.low hB).below (zqab _ _)⟩
theorem zxcb {W w3:World} {c:Ce} {I N:Value} {B:Nat} (hM:w3.heap[W.heap.size]? = some (.cells (boxV 0 0 (.slice none 0 0) (.slice none 0 0)) 38 (0,0))) (hb:Below W.heap.size W w3) (ho:CeOwn w3 B I N c) (hB:W.heap.size ≤ B):JAt W W.heap.size c I N (set4 w3 W.heap.size c.key c.cnt I N):=by
 obtain ⟨ps,qs,h1,h2,h3,h4⟩:=ho.low hB;exact ⟨zqao hb (Nat.le_refl _),Nat.le_refl _,zqan hM,ps,qs,zqg7 hM (by decide) (by decide) h1,zqg6 hM (by decide) (by decide) h2,h3,h4⟩
end Go.Proofs.YtmnbljijnbhghaaGreatDoor
