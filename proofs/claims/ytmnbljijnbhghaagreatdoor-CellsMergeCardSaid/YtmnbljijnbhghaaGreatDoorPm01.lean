/- Contracts that the law leans on: Codeb Celk Celo Cele Celj. -/
import Derived.Lib.ItoaNum
import Derived.OwnWalk
import Derived.Deep.AppendLies
import Derived.Deep.RegionLawGrows
import Derived.Laws.FloatArith
import Derived.WalkLawsBesides
import Derived.Laws.Externs
import Derived.Laws.BitsAllLaws
import Derived.Lib.Hide
import Derived.Shelf.Spec.TrailingZeros
import Derived.Laws.Bits64b
import Derived.Lib.BitFns
import Derived.Lib.Small
import Derived.Lib.Strings
import Derived.Lib.Slices
import Derived.Lib.Walk
import Derived.Deep.QuietTactic
import Derived.BigQuiet
import Derived.WalkKit
import Derived.WalkSpells
import Derived.WalkSmall
import Derived.Laws.Bits64
import Derived.Deep.Draws
import Derived.Deep.RegionHeld3
import Derived.Deep.DeepCutAuto
import Derived.Laws.BytesArg
import Derived.Deep.LoopGhost
import Derived.Deep.RegionLaw
import Derived.Outline
import Derived.Deep.RegionWith
import Derived.RegionTactic
import Derived.ChangeAlike
import Derived.Laws.IdiomStrings
import Derived.ProofKit
import Derived.LaidMore
import Derived.OpenShut
import Derived.Stop.Joined
import Derived.Lib.LaidTab
import Derived.ChangeSlices
import Derived.Deep.CutBlock
import Derived.Deep.RegionHeld
import Derived.Deep.DrawnRows
import Derived.Lib.AppendZeros
import Derived.Maps.OwnSet
import Derived.Below
import Derived.SliceStrings
import Derived.Deep.CutRange
import Derived.Deep.Slices
import Derived.Deep.Fields
import Derived.ChangeSame
import Derived.Lib.SmallJoins
import Derived.Lib.Bytealg
import Derived.Lib.ConvBytes
import Derived.Laws.CopyRow
import Derived.Laws.IdiomCopy
import Derived.Laws.OwnMore
import Derived.Laws.MakeOwn
import Derived.Test.YtmnbljijnbhghaaGreatDoorProg
import Derived.Test.YtmnbljijnbhghaaGreatDoorRows
import Derived.Test.YtmnbljijnbhghaaGreatDoorPt01
import Derived.Test.YtmnbljijnbhghaaGreatDoorPt02
import Derived.Test.YtmnbljijnbhghaaGreatDoorPt03
import Derived.Test.YtmnbljijnbhghaaGreatDoorPt04
import Derived.Test.YtmnbljijnbhghaaGreatDoorPt05
import Derived.Test.YtmnbljijnbhghaaGreatDoorPt06
import Derived.Test.YtmnbljijnbhghaaGreatDoorPt07
import Derived.Test.YtmnbljijnbhghaaGreatDoorPt08
import Derived.Test.YtmnbljijnbhghaaGreatDoorPt09
import Derived.Test.YtmnbljijnbhghaaGreatDoorPt10
import Derived.Test.YtmnbljijnbhghaaGreatDoorPt11
import Derived.Test.YtmnbljijnbhghaaGreatDoorPt12
import Derived.Test.YtmnbljijnbhghaaGreatDoorPt13
import Derived.Test.YtmnbljijnbhghaaGreatDoorPt14
import Derived.Test.YtmnbljijnbhghaaGreatDoorPt15
import Derived.Test.YtmnbljijnbhghaaGreatDoorPt16
import Derived.Test.YtmnbljijnbhghaaGreatDoorPt17
import Derived.Test.YtmnbljijnbhghaaGreatDoorPt18
import Derived.Test.YtmnbljijnbhghaaGreatDoorPt19
import Derived.Test.YtmnbljijnbhghaaGreatDoorPt20
import Derived.Test.YtmnbljijnbhghaaGreatDoorPt21
import Derived.Test.YtmnbljijnbhghaaGreatDoorPt22
import Derived.Test.YtmnbljijnbhghaaGreatDoorPt23
import Derived.Test.YtmnbljijnbhghaaGreatDoorPt24
import Derived.Test.YtmnbljijnbhghaaGreatDoorPt25
import Derived.Test.YtmnbljijnbhghaaGreatDoorPt26
import Derived.Test.YtmnbljijnbhghaaGreatDoorPt27
import Derived.Test.YtmnbljijnbhghaaGreatDoorPt28
import Derived.Test.YtmnbljijnbhghaaGreatDoorPt29
import Derived.Test.YtmnbljijnbhghaaGreatDoorPt30
namespace Go.Proofs.YtmnbljijnbhghaaGreatDoor
set_option maxRecDepth 100000
set_option linter.unusedVariables false
theorem Bt.head {c:Int} {l:List Int} (h:Bt (c :: l)):0 ≤ c ∧ c ≤ 255:=h c (by simp)
theorem Bt.tail {c:Int} {l:List Int} (h:Bt (c :: l)):Bt l:=fun x hx => h x (by simp [hx])
set_option maxRecDepth 100000
open Go.RowKit
set_option linter.unusedVariables false
section
variable {P : Program} (w : World)
end
end Go.Proofs.YtmnbljijnbhghaaGreatDoor
namespace Go.Proofs.YtmnbljijnbhghaaGreatDoor
set_option maxRecDepth 100000
open Go.RowKit
set_option linter.unusedVariables false
section
variable {P : Program} (w : World)
theorem zxa4 (base:Nat) (t ty e:TypeId) (i:TypeInfo) (z:Value) (size bytes:Nat) (ht:P.underlying t = some (.slice e)) (hi:P.info? e = some i) (hz:i.zero = some z) (hsize:i.size = size) (hby:i.bytes = bytes) (hzs:z.cells.size = size) (hsz:0 < size)
  (v v2:Value) (n m:Nat) (xs news:List Value) (hown:w.ownsRow base e size v n xs) (hv2:NewsAt w v2 m news) (hl:news.length = m * size) (one:∀ u ∈ news,u.oneCell' = true) (h63:n + m ≤ maxLen) (hbytes:(n + m) * bytes ≤ 140737488355328)
  (v':Value) (w':World) (hrun:(Builtin.append_ #[t,t] ty #[v,v2]).run P w = .ok v' w'):v'.ownBlock = v.ownBlock ∨ v'.ownBlock = some w.heap.size:=by
 subst hsize;subst hby;obtain ⟨a,cap2,rfl,ha⟩:=hv2;cases a with
 | none =>
  have hn:news = [] ∧ m = 0:=by
   rcases ha with h | ⟨b,off,h,_⟩
   ·exact h
   ·cases h
  obtain ⟨rfl,rfl⟩:=hn;rw [zqif w base t ty e i i.size ht hi v _ _ hown cap2] at hrun;injection hrun with e1 _;rw [e1];exact .inl rfl
 | some ad =>
  have hnews:∀ j u,news[j]? = some u → w.cell? (ad.add j) = some u:=fun j u hj => by
   rcases ha with ⟨h,-⟩ | ⟨b,off,h,hcell⟩
   ·subst h; simp at hj
   ·simp only [Option.some.injEq] at h;subst h;have hh:=hcell j u hj
    by_cases h0:j = 0
    ·subst h0; simpa [Addr.add] using hh
    ·simpa [Addr.add,h0] using hh
  have hsmall:n + m ≤ 9223372036854775807:=by simp only [maxLen] at h63; omega
  rcases hown.2 with ⟨rfl,rfl⟩ | ⟨g,cap,cur,rfl,hbg,hg,hnc,hcm,hcs,htake⟩
  ·have hx:xs = []:=List.eq_nil_of_length_eq_zero (by simpa using hown.1)
   subst hx
   by_cases hm:m = 0
   ·subst hm;have hn:news = []:=List.eq_nil_of_length_eq_zero (by simpa using hl)
    subst hn;have hr:(Builtin.append_ #[t,t] ty #[.slice none 0 0,.slice (some ad) 0 cap2]).run P w = .ok (.slice none 0 0) w:=by
     simp [Builtin.append_,run_underlying ht,sizeOf,typeInfo,hi,Builtin.lenOf,Builtin.firstCells,loadCells,loadCellsFrom]
    rw [hr] at hrun;injection hrun with e1 _;rw [← e1];exact .inl rfl
   ·have hr:=Go.run_append_nil (P:=P) w t ty e i z ht hi hz ad m cap2 news hl hnews (by omega) (by omega) (by have hb:=hbytes; simp only [Nat.zero_add] at hb; omega)
    rw [hr] at hrun;injection hrun with e1 _;rw [← e1];exact .inr rfl
  ·by_cases hroom:n + m ≤ cap
   ·have hfit:n * i.size + news.length ≤ cur.size:=by rw [hl,hcs,← Nat.add_mul]; exact Nat.mul_le_mul_right _ hroom
    have hr:=run_append_room (P:=P) w t ty e i ht hi g n cap cur hg ad m cap2 news hl hnews one hroom hfit;rw [hr] at hrun;injection hrun with e1 _;rw [← e1];exact .inl rfl
   ·have holds:∀ j u,xs[j]? = some u → w.cell? ((⟨g,0,none⟩:Addr).add j) = some u:=hown.cells (g:=g) rfl
    have hr:=run_append_grow (P:=P) w t ty e i z ht hi hz ⟨g,0,none⟩ n cap xs hown.1 holds ad m cap2 news hl hnews (by omega) (by omega) (growslice_fits (by omega) hbytes)
    rw [hr] at hrun;injection hrun with e1 _;rw [← e1];exact .inr rfl
theorem zxau {ops:Array Oper} {rest:List Oper} {o:Oper} {a:Act} {Q:Exit → Act → World → Prop} (hw:Region.wanted o (yielded ops a.tmps) = true) (s x:Operand) (t:TypeId)
  (ho:o.op = .call { callee:=.builtin .append,args:=#[s,x],argTypes:=#[t,t] })
  (base:Nat) (e:TypeId) (i:TypeInfo) (z:Value) (size bytes:Nat) (ht:P.underlying t = some (.slice e)) (hi:P.info? e = some i) (hz:i.zero = some z) (hsize:i.size = size) (hby:i.bytes = bytes) (hzs:z.cells.size = size) (hsz:0 < size)
  (v v2:Value) (n m:Nat) (xs news:List Value) (hs:a.eval s = v) (hx:a.eval x = v2) (hown:w.ownsRow base e size v n xs) (hv2:NewsAt w v2 m news) (hl:news.length = m * size) (one:∀ u ∈ news,u.oneCell' = true) (h63:n + m ≤ maxLen) (hbytes:(n + m) * bytes ≤ 140737488355328) (hbase:base ≤ w.heap.size)
  (h:∀ v' w',w'.ownsRow base e size v' (n + m) (xs ++ news) → w.grownBy w' v.ownBlock → (v'.ownBlock = v.ownBlock ∨ v'.ownBlock = some w.heap.size) → wpList P ops Q rest (a.put o.dst v') w'):wpList P ops Q (o :: rest) a w :=
 BigFrame.wpList_want hw fun _ hK => by
  obtain ⟨v',w',hrun,r1,r2⟩:=zqma (P:=P) w base t o.type e i z size bytes ht hi hz hsize hby hzs hsz v v2 n m xs news hown hv2 hl one h63 hbytes hbase;have r3:=zxa4 (P:=P) w base t o.type e i z size bytes ht hi hz hsize hby hzs hsz v v2 n m xs news hown hv2 hl one h63 hbytes v' w' hrun;unfold Oper.wp;simp [execOp,ho,resolve,invoke,builtin,hs,hx,hrun,Result.andThen];exact hK _ _ (h v' w' r1 r2 r3)
end
theorem zxap:∀ {ps:List (Value × Value × Ce)},(∀ p ∈ ps,p.1.oneCell' = true ∧ p.2.1.oneCell' = true) → ∀ u ∈ cellsC ps,u.oneCell' = true
 | [],_,u,hu => by cases hu
 | p :: ps,h,u,hu => by
  rcases List.mem_append.1 hu with hu | hu
  ·have:=h p (List.mem_cons_self ..);simp only [rowC,List.mem_cons,List.not_mem_nil,or_false] at hu;rcases hu with rfl | rfl | rfl | rfl
   ·rfl
   ·rfl
   ·exact this.1
   ·exact this.2
  ·exact zxap (fun q hq => h q (List.mem_cons_of_mem _ hq)) u hu
theorem zxab {w:World} {ps:List (Value × Value × Ce)} (h:∀ p ∈ ps,CeM w p.1 p.2.1 p.2.2):∀ u ∈ cellsC ps,u.oneCell' = true:=zxap fun p hp => (h p hp).ones
end Go.Proofs.YtmnbljijnbhghaaGreatDoor
namespace Go.Proofs.YtmnbljijnbhghaaGreatDoor
set_option maxRecDepth 100000
open Go.RowKit
set_option linter.unusedVariables false
theorem zxbm (w:World) (z:Value) (n:Nat) (E:TypeId) (hz:z.cells.size = 4) (hm:n ≤ maxLen) :
  (w.drew.alloc (.cells (Builtin.zeroCells z.cells n ++ Builtin.zeroCells z.cells (grownCap w n 0 E - n)) E)).ownsRow w.heap.size E 4 (.slice (some ⟨w.heap.size,0,none⟩) 0 (grownCap w n 0 E)) 0 []:=by
 have h1:=grownCap_ge w n 0 E;have h2:=grownCap_le_maxLen w n 0 E hm;refine ⟨by simp,.inr ⟨w.heap.size,_,_,rfl,Nat.le_refl _,heap_alloc_new w.drew _,Nat.zero_le _,h2,?_,by simp⟩⟩
 simp only [Array.size_append,size_zeroCells,hz];omega
set_option maxHeartbeats 1000000 in
theorem zxbp (w:World) (n:Nat) (hn:n ≤ 1000) :
  Calls Tryz.prog 113 #[.slice none 0 0,.int .i64 n] w fun e w' => (∃ v,e = .returned v ∧ w'.ownsRow w.heap.size 38 4 v 0 []) ∧ Below w.heap.size w w':=by
 obtain ⟨i0,hi,hz0,hz1,hz2⟩:=info_parts Tryz.infoCell
 by_cases h0:n = 0
 ·subst h0;go_enter Tryz.func113,Tryz.ntmps113;go_wp2;go_ret;exact ⟨⟨_,rfl,by simp,.inl ⟨rfl,rfl⟩⟩,Below.refl _ _⟩
 ·have i1:IntKind.i64.wrap (n:Int) = n:=IntWalk.i64_in _ (by omega)
  have i2:(0:Int) < (n:Int):=by omega
  have happ:=Lib.run_append_nil_zeros (P:=Tryz.prog) w 28 3 28 38 i0 CZ .i64 .i64 Tryz.underlying28 Tryz.underlying3 hi hz0 n (by omega) (by omega) (by omega) (by rw [hz2]; omega)
  have HO:=zh (zxbm w CZ n 38 zqo5 (by unfold maxLen; omega))
  have hg:=grownCap_ge w n 0 38;generalize grownCap w n 0 38 = cap at *;have HB:=zh (((Below.refl w.heap.size w).drew).alloc (Nat.le_refl _) (.cells (Builtin.zeroCells CZ.cells n ++ Builtin.zeroCells CZ.cells (cap - n)) 38));generalize Builtin.zeroCells CZ.cells n ++ Builtin.zeroCells CZ.cells (cap - n) = Z at *;go_enter Tryz.func113,Tryz.ntmps113;go_wp2_with (at_builtin; refine Lib.wpList_append_run _ rfl _ _ _ _ rfl _ _ rfl rfl _ _ happ ?_);go_ret;exact ⟨⟨_,rfl,HO.out⟩,HB.out⟩
def RowsC (w:World) (v:Value) (L:List (List (Value × Value × Ce))):Prop:=∃ b,v = .slice (some ⟨b,0,none⟩) L.length L.length ∧ b < w.heap.size ∧ ∀ k,k < L.length → ∃ u,w.cell? ⟨b,k,none⟩ = some u ∧ NewsAt w u (L.getD k []).length (cellsC (L.getD k []))
theorem zxbh {w wr w1:World} {B E sz n:Nat} {v:Value} {xs:List Value} (hb:Below B w wr) (hB:B ≤ wr.heap.size) (ho:wr.ownsRow B E sz v n xs) (hg:wr.grownBy w1 v.ownBlock):Below B w w1:=by
 refine hb.trans ⟨hg.os,hg.tape,hg.output,hg.size,fun k hk => hg.block k (by omega) fun e => ?_⟩
 rcases ho.2 with ⟨rfl,-⟩ | ⟨g,cap,cur,rfl,h2,-⟩
 ·simp [Value.ownBlock] at e
 ·have:k = g:=by simpa [Value.ownBlock] using e
  omega
set_option maxHeartbeats 4000000 in
theorem zxbg (w:World) (v:Value) (L:List (List (Value × Value × Ce))) (h:RowsC w v L) (hl:L.flatten.length ≤ 1000) (hl2:L.length ≤ 1000) (one:∀ q ∈ L,∀ u ∈ cellsC q,u.oneCell' = true) :
  Calls Tryz.prog 56 #[v] w fun e w' => (∃ v,e = .returned v ∧ w'.ownsRow w.heap.size 38 4 v L.flatten.length (cellsC L.flatten)) ∧ Below w.heap.size w w':=by
 obtain ⟨i0,hi,hz0,hz1,hz2⟩:=info_parts Tryz.infoCell;obtain ⟨b,rfl,hlt,hc⟩:=h;have HC:=zh hc;have HN:=zh (fun k => zqsy (L:=L) (k:=k))
 have HL:=zh (fun k => Nat.le_trans (zqym L k) hl)
 have HE:=zh (show (L.take L.length).flatten = L.flatten by rw [List.take_length])
 have HG:=zh (fun w n hn => zxbp w n hn)
 have HO1:=zh (show ∀ k,k < L.length → ∀ u ∈ cellsC (L.getD k []),u.oneCell' = true from fun k hk => one _ (by simp [List.getD,hk]))
 clear hc hl one;go_enter Tryz.func56,Tryz.ntmps56;go_wp2_with fail;go_loopw [3,11] (fun s i wr => ∃ k:Nat,k ≤ L.length ∧ i = .int .i64 k ∧ w = wr ∧ ∃ m:Nat,s = .int .i64 m ∧ m ≤ 1000 ∧ Hid (m = (L.take k).flatten.length)) (fun _ i _ => L.length - (intOf i).toNat)
 case atStart => exact ⟨0,Nat.zero_le _,rfl,rfl,0,rfl,by omega,zh (by simp)⟩
 case round =>
  obtain ⟨k,hk,rfl,rfl,m,rfl,hm,HM⟩:=hrel
  by_cases hlk:k < L.length
  ·obtain ⟨u,hx,hu⟩:=HC.out k hlk;have hnx:=congrArg List.length (HN.out k hlk);rw [List.length_append,← HM.out] at hnx;have hle:=HL.out (k + 1);have HX:=zh hnx;obtain ⟨ua,uc,rfl⟩:=zqc2 hu;clear hu;generalize hq:(L.getD k []).length = q at *;have i1:IntKind.i64.wrap ((m:Int) + q) = ((m + q:Nat):Int):=by rw [IntWalk.i64_in _ (by omega)]; omega
   have i3:¬ ((m + q:Nat):Int) < 0:=by omega
   clear hnx hq;go_wp2_with fail;go_roundw
   case rel => exact ⟨k + 1,by omega,by go_num,by trivial,m + q,rfl,by have:=HX.out; omega,zh HX.out.symm⟩
   case measure => simp [intOf]; omega
  ·have:k = L.length:=by omega
   subst this;go_wp2_with fail;refine (HG.out _ m hm).mono ?_; rintro e w1 ⟨⟨v1,rfl,hv⟩,hb⟩;have HV:=zh hv;have HB:=zh hb;obtain ⟨pa,pc,rfl⟩:=zqae hv;clear hv hb;go_wp2_with fail;go_loopw [6,27] (fun lv i wr => ∃ k:Nat,k ≤ L.length ∧ i = .int .i64 k ∧ Hid (wr.ownsRow w.heap.size 38 4 lv (L.take k).flatten.length (cellsC (L.take k).flatten) ∧ Below w.heap.size w wr)) (fun _ i _ => L.length - (intOf i).toNat)
   case atStart => exact ⟨0,Nat.zero_le _,rfl,zh ⟨HV.out,HB.out⟩⟩
   case round =>
    obtain ⟨k,hk,rfl,HS⟩:=hrel
    by_cases hlk:k < L.length
    ·obtain ⟨u,hx,hu⟩:=HC.out k hlk;have hx:wr.cell? ⟨b,k,none⟩ = some u:=(HS.out.2.cell (p:=⟨b,k,none⟩) hlt).trans hx;have HU:=zh (zqb0 hu HS.out.2);have HNk:=HN.out k hlk;have HLk:=HL.out (k + 1);rw [HNk,List.length_append] at HLk;have HLk:=zh HLk;have HNk:=zh HNk;have HOk:=zh (HO1.out k hlk);obtain ⟨ua,uc,rfl⟩:=zqc2 hu;clear hu;generalize (L.take k).flatten = F at *;generalize hq:L.getD k [] = q at *;have hsz:=HS.out.2.size;obtain ⟨pa,pc,rfl⟩:=zqae HS.out.1;clear hq;go_wp2_with (at_builtin; refine zqbd _ (by rfl) _ _ 28 rfl w.heap.size 38 i0 CZ 4 64 Tryz.underlying28 hi hz0 hz1 hz2 zqo5 (by decide) _ _ F.length q.length (cellsC F) (cellsC q) rfl rfl HS.out.1 HU.out (zqco q) HOk.out (by have:=HLk.out; unfold maxLen; omega) (by have:=HLk.out; omega) hsz ?_; intro v' w1 hown hgrow; have HQ:=zh (And.intro hown (zxbh HS.out.2 hsz HS.out.1 hgrow)); obtain ⟨pv',cv',rfl⟩:=zqae hown; clear hown hgrow)
     go_roundw
     case rel => exact ⟨k + 1,by omega,by go_num,zh ⟨by rw [HNk.out,zqdk,List.length_append]; exact HQ.out.1,HQ.out.2⟩⟩
     case measure => simp [intOf]; omega
    ·have:k = L.length:=by omega
     subst this;have HS2:=HS.out;rw [HE.out] at HS2;have HS3:=zh HS2;clear HS2;obtain ⟨pa,pc,rfl⟩:=zqae HS3.out.1;go_wp2;go_ret;exact ⟨⟨_,rfl,HS3.out.1⟩,HS3.out.2⟩
set_option maxHeartbeats 8000000 in
theorem zxav (w:World) (u v:Value) (l m:List Ce) (hu:Cells w u l) (hv:Cells w v m) (hw:LsW l) (hw':LsW m) :
  Calls Tryz.prog 24 #[u,v] w fun e w' => e = .returned (.bool (eqsC l m)) ∧ Below w.heap.size w w':=by
 have HU:=zh hu;have HV:=zh hv;have HW:=zh (fun k (hk:k < l.length) => hw.cg hk)
 have HW':=zh (fun k (hk:k < m.length) => hw'.cg hk)
 obtain ⟨a,cap,rfl,-,hmx,-⟩:=hu;obtain ⟨a',cap',rfl,-,-,-⟩:=hv
 by_cases hl:l.length = m.length
 ·have HY:=zh (fun (h:∀ k,k < l.length → sameC (cg l k) (cg m k) = true) => show eqsC l m = true by unfold eqsC; rw [decide_eq_true hl,Bool.true_and]; exact List.all_eq_true.2 fun x hx => h x (by simpa using hx))
  have HN:=zh (fun k (hk:k < l.length) (h:sameC (cg l k) (cg m k) = false) => show eqsC l m = false by unfold eqsC; rw [decide_eq_true hl,Bool.true_and]; exact List.all_eq_false.2 ⟨k,by simpa using hk,by simp [h]⟩)
  have hnn:((l.length:Int) != (m.length:Int)) = false:=by simp [hl]
  have HL:=zh hl;generalize eqsC l m = R at *;clear hw hw' hl;go_enter Tryz.func24,Tryz.ntmps24;go_wp2_with fail;go_loopw [5] (fun iv wr => ∃ k:Nat,k ≤ l.length ∧ iv = .int .i64 k ∧ Hid (Below w.heap.size w wr ∧ ∀ j,j < k → sameC (cg l j) (cg m j) = true)) (fun iv _ => l.length - (intOf iv).toNat)
  case atStart => exact ⟨0,Nat.zero_le _,rfl,zh ⟨Below.refl _ _,fun j hj => by omega⟩⟩
  case round =>
   obtain ⟨k,hk,rfl,HS⟩:=hrel
   by_cases hlk:k < l.length
   ·have hlk':(k:Int) < (l.length:Int):=by omega
    have hkb0:k < m.length:=by have:=HL.out; omega
    have hkb:(k:Int) < (m.length:Int):=by omega
    have hle:Hid (k + 1 ≤ l.length):=zh (by omega)
    obtain ⟨ba,oa,rfl,-,I,N,hqa⟩:=(HU.out.below HS.out.1).at hlk;obtain ⟨bb,ob,rfl,-,J,M,hqb⟩:=(HV.out.below HS.out.1).at hkb0;have HWx:=HW.out k hlk;have HWy:=HW'.out k hkb0;have HNk:=zh (fun h => HN.out k hlk h)
    have HSn:=zh (fun (h:sameC (cg l k) (cg m k) = true) j (hj:j < k + 1) => show sameC (cg l j) (cg m j) = true from if e:j = k then e ▸ h else HS.out.2 j (by omega))
    have HBk:=zh HS.out.1;generalize cg l k = x at *;generalize cg m k = y at *;have HC:=zh (fun w1 (hb:Below wr.heap.size wr w1) => zqow w1 x y I N J M (hqa.m.below hb) (hqb.m.below hb) HWx HWy)
    obtain ⟨⟨p,c,rfl⟩,q,d,rfl⟩:=hqa.m.slices;obtain ⟨⟨p',c',rfl⟩,q',d',rfl⟩:=hqb.m.slices;obtain ⟨f0,f1,f2,f3,-⟩:=hqa;obtain ⟨g0,g1,g2,g3,-⟩:=hqb;clear HWx HWy HS;generalize sameC x y = T at *;obtain ⟨x0,x1,x2,x3⟩:=x;obtain ⟨y0,y1,y2,y3⟩:=y
    dsimp only at f0 f1 f2 f3 g0 g1 g2 g3
    go_upto_region 6 with fail;have hk8:wr.drew.cell? ⟨ba,oa + k * 4,none⟩ = some (.int .u64 x0) ∧ wr.drew.cell? ⟨ba,oa + k * 4 + 1,none⟩ = some (.int .i64 x1) ∧ wr.drew.cell? ⟨ba,oa + k * 4 + 2,none⟩ = some (.slice p x2.length c) ∧ wr.drew.cell? ⟨ba,oa + k * 4 + 3,none⟩ = some (.slice q x3.length d) ∧ wr.drew.cell? ⟨bb,ob + k * 4,none⟩ = some (.int .u64 y0) ∧ wr.drew.cell? ⟨bb,ob + k * 4 + 1,none⟩ = some (.int .i64 y1) ∧ wr.drew.cell? ⟨bb,ob + k * 4 + 2,none⟩ = some (.slice p' y2.length c') ∧ wr.drew.cell? ⟨bb,ob + k * 4 + 3,none⟩ = some (.slice q' y3.length d'):=⟨f0,f1,f2,f3,g0,g1,g2,g3⟩;clear f0 f1 f2 f3 g0 g1 g2 g3;have hBw:Below wr.heap.size wr wr.drew:=(Below.refl _ _).drew;go_region_held3 (fun w' => w'.cell? ⟨ba,oa + k * 4,none⟩ = some (.int .u64 x0) ∧ w'.cell? ⟨ba,oa + k * 4 + 1,none⟩ = some (.int .i64 x1) ∧ w'.cell? ⟨ba,oa + k * 4 + 2,none⟩ = some (.slice p x2.length c) ∧ w'.cell? ⟨ba,oa + k * 4 + 3,none⟩ = some (.slice q x3.length d) ∧ w'.cell? ⟨bb,ob + k * 4,none⟩ = some (.int .u64 y0) ∧ w'.cell? ⟨bb,ob + k * 4 + 1,none⟩ = some (.int .i64 y1) ∧ w'.cell? ⟨bb,ob + k * 4 + 2,none⟩ = some (.slice p' y2.length c') ∧ w'.cell? ⟨bb,ob + k * 4 + 3,none⟩ = some (.slice q' y3.length d')) (with_reducible exact hk8)
     (first | (go_at_call 18; refine (HC.out _ hBw).mono ?_; rintro e w1 ⟨rfl,hb1⟩; replace hk8:=hold8 hb1 hk8; have hBw:=zqaa hBw hb1; clear hb1))
    have HB1:=zh (zqaa HBk.out hBw);clear HC hk8 hBw;cases T with
    | true =>
     have HJ:=zh (HSn.out rfl);go_wp2_with fail;go_roundw
     case rel => exact ⟨k + 1,hle.out,by go_num,zh ⟨HB1.out,HJ.out⟩⟩
     case measure => simp [intOf]; omega
    | false =>
     have hR:=HNk.out rfl;subst hR;go_wp2_with fail;go_ret;exact ⟨rfl,HB1.out⟩
   ·have:k = l.length:=by omega
    subst this;have hR:=HY.out HS.out.2;subst hR;go_wp2_with fail;go_ret;exact ⟨rfl,HS.out.1⟩
 ·have hR:eqsC l m = false:=by unfold eqsC; rw [decide_eq_false hl]; rfl
  rw [hR];have hnn:((l.length:Int) != (m.length:Int)) = true:=by simp; omega
  clear HU HV HW HW' hw hw' hl;go_enter Tryz.func24,Tryz.ntmps24;go_wp2_with fail;go_ret;exact ⟨rfl,Below.refl _ _⟩
def consE (x:Ce) (r:Nat × List Ce):Nat × List Ce:=if r.1 = 0 then (0,x :: r.2) else (r.1,[])
noncomputable def mergeC:List Ce → List Ce → Nat × List Ce
 | [],b => (0,b)
 | a,[] => (0,a)
 | x :: a,y :: b => if x.key < y.key then consE x (mergeC a (y :: b)) else if y.key < x.key then consE y (mergeC (x :: a) b) else if errJ x y = 0 then consE (joinC x y) (mergeC a b) else (errJ x y,[])
noncomputable def oneC:List Ce → List Ce → Nat × List Ce
 | [],_ => (0,[])
 | x :: a,b => match lookC b x.key with
  | none => consE x (oneC a b)
  | some y => if errJ x y = 0 then consE (joinC x y) (oneC a b) else (errJ x y,[])
noncomputable def insC (l:List Ce) (c:Ce):List Ce:=(withL l c).2
def restC (a b:List Ce):List Ce:=b.filter fun y => (lookC a y.key).isNone
theorem zxas {l:List Ce} {k:Int} (h:∀ c ∈ l,c.key ≠ k):lookC l k = none:=by
 unfold lookC;rw [List.find?_eq_none];intro c hc;simpa using h c hc
theorem zxbq {x c:Ce} {l:List Ce} (h:x.key < c.key) (h0:∀ z ∈ l,z.key ≠ c.key):insC (x :: l) c = x :: insC l c:=by
 unfold insC;rw [withL,if_pos h,if_pos (zqkn h0).1]
theorem zxbr {c:Ce} {l:List Ce} (h:∀ z ∈ l,c.key < z.key):insC l c = c :: l:=by
 cases l with
 | nil => rfl
 | cons x l =>
  have:=h x (List.mem_cons_self ..);unfold insC;rw [withL,if_neg (by omega),if_neg (by omega)]
theorem zxbk {z:Ce}:∀ (cs:List Ce) {l:List Ce},(∀ c ∈ cs,∀ x ∈ l,x.key ≠ c.key) → risingC cs → (z ∈ cs.foldl insC l ↔ z ∈ cs ∨ z ∈ l)
 | [],l,_,_ => by simp
 | c :: cs,l,h,hr => by
  have hw:=(zqkn (l:=l) (c:=c) fun x hx => h c (List.mem_cons_self ..) x hx).2
  rw [List.foldl_cons,zxbk cs (fun d hd x hx => ?_) (zqbn hr),List.mem_cons]
  ·rw [show insC l c = (withL l c).2 from rfl,hw]
   constructor
   ·rintro (q | q | q) <;> simp [q]
   ·rintro ((q | q) | q) <;> simp [q]
  ·rw [show insC l c = (withL l c).2 from rfl,hw] at hx;rcases hx with rfl | hx
   ·have:=zqaz hr d hd; omega
   ·exact h d (List.mem_cons_of_mem _ hd) x hx
theorem zxaf {x:Ce}:∀ (cs:List Ce) {l:List Ce},(∀ c ∈ cs,x.key < c.key) → (∀ c ∈ cs,∀ z ∈ l,z.key ≠ c.key) → risingC cs → cs.foldl insC (x :: l) = x :: cs.foldl insC l
 | [],l,_,_,_ => rfl
 | c :: cs,l,h,h0,hr => by
  rw [List.foldl_cons,List.foldl_cons,zxbq (h c (List.mem_cons_self ..)) fun z hz => h0 c (List.mem_cons_self ..) z hz]
  refine zxaf cs (fun d hd => h d (List.mem_cons_of_mem _ hd)) (fun d hd z hz => ?_) (zqbn hr)
  rw [show insC l c = (withL l c).2 from rfl,(zqkn (l:=l) (c:=c) fun x hx => h0 c (List.mem_cons_self ..) x hx).2] at hz
  rcases hz with rfl | hz
  ·have:=zqaz hr d hd; omega
  ·exact h0 d (List.mem_cons_of_mem _ hd) z hz
theorem zxa0:∀ (cs:List Ce),risingC cs → cs.foldl insC [] = cs
 | [],_ => rfl
 | c :: cs,h => by
  rw [List.foldl_cons,show insC [] c = [c] from rfl,zxaf cs (fun d hd => zqaz h d hd) (fun _ _ z hz => by cases hz) (zqbn h),zxa0 cs (zqbn h)]
theorem zxam {a b:List Ce} (h:risingC b):risingC (restC a b):=List.Pairwise.filter _ h
theorem zxad {b:List Ce}:∀ {a:List Ce} {z:Ce},(oneC a b).1 = 0 → z ∈ (oneC a b).2 → ∃ x ∈ a,x.key = z.key
 | [],z,_,h => by simp [oneC] at h
 | x :: a,z,e,h => by
  unfold oneC at e h;cases hl:lookC b x.key with
  | none =>
   rw [hl] at e h
   dsimp only at e h
   unfold consE at e h
   by_cases q:(oneC a b).1 = 0
   ·rw [if_pos q] at h;rcases List.mem_cons.1 h with rfl | h
    ·exact ⟨z,List.mem_cons_self ..,rfl⟩
    ·obtain ⟨y,hy,e⟩:=zxad q h;exact ⟨y,List.mem_cons_of_mem _ hy,e⟩
   ·rw [if_neg q] at e; exact absurd e q
  | some y =>
   rw [hl] at e h
   dsimp only at e h
   by_cases k:errJ x y = 0
   ·rw [if_pos k] at e h;unfold consE at e h
    by_cases q:(oneC a b).1 = 0
    ·rw [if_pos q] at h;rcases List.mem_cons.1 h with rfl | h
     ·exact ⟨x,List.mem_cons_self ..,(zqdd k).symm⟩
     ·obtain ⟨y,hy,e⟩:=zxad q h;exact ⟨y,List.mem_cons_of_mem _ hy,e⟩
    ·rw [if_neg q] at e; exact absurd e q
   ·rw [if_neg k] at e; exact absurd e k
theorem zxa7 {y:Ce} {b:List Ce} {k:Int} (h:y.key < k):lookC (y :: b) k = lookC b k:=by
 unfold lookC;rw [List.find?_cons_of_neg];simp; omega
theorem zxax {y:Ce} {b:List Ce}:∀ {a:List Ce},(∀ x ∈ a,y.key < x.key) → oneC a (y :: b) = oneC a b
 | [],_ => rfl
 | x :: a,h => by
  rw [oneC,oneC,zxa7 (h x (List.mem_cons_self ..)),zxax fun z hz => h z (List.mem_cons_of_mem _ hz)]
theorem zxa9 {x:Ce} {a b:List Ce} (h:∀ y ∈ b,x.key < y.key):restC (x :: a) b = restC a b:=by
 unfold restC;apply List.filter_congr;intro y hy;rw [zxa7 (h y hy)]
theorem zxaa {a b:List Ce} {c:Ce} (h:c ∈ restC a b):c ∈ b ∧ ∀ x ∈ a,x.key ≠ c.key:=by
 unfold restC at h;obtain ⟨h1,h2⟩:=List.mem_filter.1 h;refine ⟨h1,fun x hx e => ?_⟩
 rw [Option.isNone_iff_eq_none] at h2;unfold lookC at h2;rw [List.find?_eq_none] at h2;have:=h2 x hx;simp [e] at this
noncomputable def twoC (a b:List Ce):Nat × List Ce:=if (oneC a b).1 = 0 then (0,(restC a b).foldl insC (oneC a b).2) else ((oneC a b).1,[])
theorem zxbb {x:Ce} {r:Nat × List Ce} {a cs:List Ce} (hk:r.1 = 0 → ∀ z ∈ r.2,∃ x ∈ a,x.key = z.key) (h1:∀ c ∈ cs,x.key < c.key) (h2:∀ c ∈ cs,∀ z ∈ a,z.key ≠ c.key) (hr:risingC cs) :
  (if (consE x r).1 = 0 then (0,cs.foldl insC (consE x r).2) else ((consE x r).1,[])) = consE x (if r.1 = 0 then (0,cs.foldl insC r.2) else (r.1,[])):=by
 unfold consE
 by_cases e:r.1 = 0
 ·rw [if_pos e,if_pos rfl,if_pos e,if_pos rfl]
  dsimp only
  rw [zxaf cs h1 (fun c hc z hz => ?_) hr]
  obtain ⟨w,hw,e2⟩:=hk e z hz;rw [← e2];exact h2 c hc w hw
 ·rw [if_neg e,if_neg e,if_neg e,if_neg e]
theorem zxal:∀ (a b:List Ce),risingC a → risingC b → mergeC a b = twoC a b
 | [],b,_,hb => by
  unfold mergeC twoC;rw [show oneC [] b = (0,[]) from rfl,if_pos rfl];have e:restC [] b = b:=by unfold restC; rw [List.filter_eq_self]; intro y _; rfl
  rw [e,zxa0 b hb]
 | x :: a,[],_,_ => by
  have e:∀ l:List Ce,oneC l [] = (0,l):=by
   intro l
   induction l with
   | nil => rfl
   | cons x l ih => rw [oneC,ih]; rfl
  unfold mergeC twoC;rw [e,if_pos rfl]
  rfl
 | x :: a,y :: b,ha,hb => by
  have hxa:=zqaz ha;have hyb:=zqaz hb;rw [mergeC]
  by_cases h1:x.key < y.key
  ·rw [if_pos h1,zxal a (y :: b) (zqbn ha) hb];have hl:lookC (y :: b) x.key = none:=zxas fun c hc => by
    rcases List.mem_cons.1 hc with rfl | hc
    ·omega
    ·have:=hyb c hc; omega
   have hx:∀ c ∈ y :: b,x.key < c.key:=fun c hc => by
    rcases List.mem_cons.1 hc with rfl | hc
    ·exact h1
    ·have:=hyb c hc; omega
   unfold twoC;rw [oneC,hl]
   dsimp only
   rw [zxa9 hx,zxbb (a:=a) (fun e z hz => zxad e hz) (fun c hc => hx c (zxaa hc).1) (fun c hc => (zxaa hc).2) (zxam hb)]
  ·rw [if_neg h1]
   by_cases h2:y.key < x.key
   ·rw [if_pos h2,zxal (x :: a) b ha (zqbn hb)];have hy:∀ z ∈ x :: a,y.key < z.key:=fun z hz => by
     rcases List.mem_cons.1 hz with rfl | hz
     ·exact h2
     ·have:=hxa z hz; omega
    unfold twoC;rw [zxax hy];have e:restC (x :: a) (y :: b) = y :: restC (x :: a) b:=by
     unfold restC;rw [List.filter_cons_of_pos];rw [zxas fun z hz e => by have:=hy z hz; omega]
     rfl
    rw [e,List.foldl_cons];unfold consE
    by_cases q:(oneC (x :: a) b).1 = 0
    ·rw [if_pos q,if_pos q,if_pos rfl];rw [zxbr fun z hz => ?_,zxaf _ (fun c hc => hyb c (zxaa hc).1) (fun c hc z hz => ?_) (zxam (zqbn hb))]
     ·obtain ⟨w,hw,e2⟩:=zxad q hz;rw [← e2];exact (zxaa hc).2 w hw
     ·obtain ⟨w,hw,e2⟩:=zxad q hz;rw [← e2];exact hy w hw
    ·rw [if_neg q,if_neg q,if_neg q]
   ·rw [if_neg h2];have h3:x.key = y.key:=by omega
    have hl:lookC (y :: b) x.key = some y:=by
     unfold lookC;rw [List.find?_cons_of_pos];simp [h3]
    have hy:∀ z ∈ a,y.key < z.key:=fun z hz => by have:=hxa z hz; omega
    have hx:∀ c ∈ b,x.key < c.key:=fun c hc => by have:=hyb c hc; omega
    rw [zxal a b (zqbn ha) (zqbn hb)]
    by_cases q:errJ x y = 0
    ·rw [if_pos q];have e1:oneC (x :: a) (y :: b) = consE (joinC x y) (oneC a b):=by
      rw [oneC,hl]
      dsimp only
      rw [if_pos q,zxax hy]
     unfold twoC;rw [e1];have e:restC (x :: a) (y :: b) = restC a b:=by
      rw [show restC (x :: a) (y :: b) = restC (x :: a) b from ?_,zxa9 hx];unfold restC;rw [List.filter_cons_of_neg];unfold lookC;rw [List.find?_cons_of_pos] <;> simp [h3]
     rw [e,zxbb (a:=a) (fun e z hz => zxad e hz) (fun c hc => ?_) (fun c hc => (zxaa hc).2) (zxam (zqbn hb))]
     rw [zqdd q];exact hx c (zxaa hc).1
    ·have e1:oneC (x :: a) (y :: b) = (errJ x y,[]):=by
      rw [oneC,hl]
      dsimp only
      rw [if_neg q]
     unfold twoC;rw [if_neg q,e1,if_neg q]
termination_by a b => a.length + b.length
theorem zxaq {l:List Ce}:risingB l = true ↔ risingC l:=by
 constructor
 ·intro h;unfold risingC;rw [List.pairwise_iff_getElem];intro i j hi hj hij;have:=zqew h i j hij hj
  rwa [zqat hi,zqat hj] at this
 ·intro h;rw [zqdq];intro i hi;unfold risingC at h;rw [List.pairwise_iff_getElem] at h;rw [zqat (by omega),zqat hi]
  exact h i (i + 1) (by omega) hi (by omega)
noncomputable def mergeE (a b:List Ce):Nat × List Ce:=if risingB a = true ∧ risingB b = true then mergeC a b else (1,[])
theorem zxbl {a b:List Ce} (ha:risingB a = true) (hb:risingB b = true):mergeE a b = twoC a b:=by
 unfold mergeE;rw [if_pos ⟨ha,hb⟩,zxal a b (zxaq.1 ha) (zxaq.1 hb)]
end Go.Proofs.YtmnbljijnbhghaaGreatDoor
