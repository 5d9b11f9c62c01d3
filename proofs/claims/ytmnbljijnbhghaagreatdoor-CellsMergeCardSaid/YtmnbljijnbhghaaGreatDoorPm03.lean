/- Contracts that the law leans on: Cemj Celi Cemn. -/
import Derived.BigQuiet
import Derived.Maps.OwnSet
import Derived.Maps.Ext
import Derived.Maps.RangeWalk
import Derived.Deep.CutBlock
import Derived.Deep.AppendLies
import Derived.Deep.RegionHeld3
import Derived.Deep.QuietTactic
import Derived.Lib.ItoaNum
import Derived.OwnWalk
import Derived.Deep.RegionLawGrows
import Derived.Laws.FloatArith
import Derived.WalkLawsBesides
import Derived.Laws.Externs
import Derived.Laws.BitsAllLaws
import Derived.Lib.Hide
import Derived.Shelf.Spec.TrailingZeros
import Derived.Laws.Bits64b
import Derived.Lib.BitFns
import Derived.Lib.Small
import Derived.Lib.Strings
import Derived.Lib.Slices
import Derived.Lib.Walk
import Derived.WalkKit
import Derived.WalkSpells
import Derived.WalkSmall
import Derived.Laws.Bits64
import Derived.Deep.Draws
import Derived.Deep.DeepCutAuto
import Derived.Laws.BytesArg
import Derived.Deep.LoopGhost
import Derived.Deep.RegionLaw
import Derived.Outline
import Derived.Deep.RegionWith
import Derived.RegionTactic
import Derived.ChangeAlike
import Derived.Laws.IdiomStrings
import Derived.ProofKit
import Derived.LaidMore
import Derived.OpenShut
import Derived.Stop.Joined
import Derived.Lib.LaidTab
import Derived.ChangeSlices
import Derived.Deep.RegionHeld
import Derived.Deep.DrawnRows
import Derived.Lib.AppendZeros
import Derived.Below
import Derived.SliceStrings
import Derived.Deep.CutRange
import Derived.Deep.Slices
import Derived.Deep.Fields
import Derived.ChangeSame
import Derived.Lib.SmallJoins
import Derived.Lib.Bytealg
import Derived.Lib.ConvBytes
import Derived.Laws.CopyRow
import Derived.Laws.IdiomCopy
import Derived.Laws.OwnMore
import Derived.Laws.MakeOwn
import Derived.Sort.OwnSorted
import Derived.Shelf.SlSortCmp.WholeK
import Derived.Shelf.SlSortCmp.NoneTotal
import Derived.Test.YtmnbljijnbhghaaGreatDoorProg
import Derived.Test.YtmnbljijnbhghaaGreatDoorRows
import Derived.Test.YtmnbljijnbhghaaGreatDoorPm01
import Derived.Test.YtmnbljijnbhghaaGreatDoorPm02
import Derived.Test.YtmnbljijnbhghaaGreatDoorPt01
import Derived.Test.YtmnbljijnbhghaaGreatDoorPt02
import Derived.Test.YtmnbljijnbhghaaGreatDoorPt03
import Derived.Test.YtmnbljijnbhghaaGreatDoorPt04
import Derived.Test.YtmnbljijnbhghaaGreatDoorPt05
import Derived.Test.YtmnbljijnbhghaaGreatDoorPt06
import Derived.Test.YtmnbljijnbhghaaGreatDoorPt07
import Derived.Test.YtmnbljijnbhghaaGreatDoorPt08
import Derived.Test.YtmnbljijnbhghaaGreatDoorPt09
import Derived.Test.YtmnbljijnbhghaaGreatDoorPt10
import Derived.Test.YtmnbljijnbhghaaGreatDoorPt11
import Derived.Test.YtmnbljijnbhghaaGreatDoorPt12
import Derived.Test.YtmnbljijnbhghaaGreatDoorPt13
import Derived.Test.YtmnbljijnbhghaaGreatDoorPt14
import Derived.Test.YtmnbljijnbhghaaGreatDoorPt15
import Derived.Test.YtmnbljijnbhghaaGreatDoorPt16
import Derived.Test.YtmnbljijnbhghaaGreatDoorPt17
import Derived.Test.YtmnbljijnbhghaaGreatDoorPt18
import Derived.Test.YtmnbljijnbhghaaGreatDoorPt19
import Derived.Test.YtmnbljijnbhghaaGreatDoorPt20
import Derived.Test.YtmnbljijnbhghaaGreatDoorPt21
import Derived.Test.YtmnbljijnbhghaaGreatDoorPt22
import Derived.Test.YtmnbljijnbhghaaGreatDoorPt23
import Derived.Test.YtmnbljijnbhghaaGreatDoorPt24
import Derived.Test.YtmnbljijnbhghaaGreatDoorPt25
import Derived.Test.YtmnbljijnbhghaaGreatDoorPt26
import Derived.Test.YtmnbljijnbhghaaGreatDoorPt27
import Derived.Test.YtmnbljijnbhghaaGreatDoorPt28
import Derived.Test.YtmnbljijnbhghaaGreatDoorPt29
import Derived.Test.YtmnbljijnbhghaaGreatDoorPt30
import Derived.Test.YtmnbljijnbhghaaGreatDoorPt31
import Derived.Test.YtmnbljijnbhghaaGreatDoorPt32
import Derived.Test.YtmnbljijnbhghaaGreatDoorPt33
namespace Go.Proofs.YtmnbljijnbhghaaGreatDoor
set_option maxRecDepth 100000
open Go.RowKit
set_option linter.unusedVariables false
structure RdR (w:World) (v:Value) (ps:List (Value × Value × Ce)):Prop where
 o:∃ B,w.ownsRow B 38 4 v ps.length (cellsC ps)
 m:∀ p ∈ ps,CeM w p.1 p.2.1 p.2.2
theorem RdR.nil (w:World):RdR w (.slice none 0 0) []:=⟨⟨0,by simp [cellsC],.inl ⟨rfl,rfl⟩⟩,fun p hp => by cases hp⟩
theorem CsRow.rd {B:Nat} {w:World} {v:Value} {ps:List (Value × Value × Ce)} (h:CsRow B w v ps):RdR w v ps:=⟨⟨B,h.o⟩,fun p hp => (h.m p hp).mem⟩
theorem RdR.below {w w':World} {v:Value} {ps:List (Value × Value × Ce)} (h:RdR w v ps) (hb:Below w.heap.size w w'):RdR w' v ps:=by
 obtain ⟨B,ho⟩:=h.o;exact ⟨⟨B,zqaj ho hb⟩,fun p hp => (h.m p hp).below hb⟩
theorem RdR.any {w:World} {v:Value} {ps:List (Value × Value × Ce)} (h:RdR w v ps):∃ a c,v = .slice a ps.length c:=by
 obtain ⟨B,ho⟩:=h.o;exact zqae ho
theorem RdR.cells {w:World} {v:Value} {ps:List (Value × Value × Ce)} (h:RdR w v ps):Cells w v (ps.map cellOf):=by
 obtain ⟨B,ho⟩:=h.o;exact zqvv ho h.m
theorem RdR.at {n cap i:Nat} {w:World} {a:Option Addr} {ps:List (Value × Value × Ce)} (h:RdR w (.slice a n cap) ps) (hi:i < ps.length) :
  ∃ g,a = some ⟨g,0,none⟩ ∧ w.cell? ⟨g,i * 4,none⟩ = some (.int .u64 (pg ps i).2.2.key) ∧ w.cell? ⟨g,i * 4 + 1,none⟩ = some (.int .i64 (pg ps i).2.2.cnt) ∧ w.cell? ⟨g,i * 4 + 2,none⟩ = some (pg ps i).1 ∧ w.cell? ⟨g,i * 4 + 3,none⟩ = some (pg ps i).2.1:=by
 obtain ⟨B,ho⟩:=h.o;obtain ⟨a',c',e⟩:=h.any;injection e with e1 e2 e3;subst e1 e2 e3;rcases ho.2 with ⟨e,h0⟩ | ⟨g,cap',cur,e,-⟩
 ·omega
 ·injection e with e1 e2 e3;subst e1;have hc:=fun j (hj:j < 4) => (World.ownsRow.cellAt ho (i * 4 + j) (by omega)).trans (zqcn ps i j hi hj)
  rw [zqz9 hi];exact ⟨g,rfl,hc 0 (by decide),hc 1 (by decide),hc 2 (by decide),hc 3 (by decide)⟩
theorem RdR.tail {n cap k:Nat} {w:World} {a:Option Addr} {ps:List (Value × Value × Ce)} (h:RdR w (.slice a n cap) ps) (hk:k ≤ ps.length) :
  ∃ u c,(∀ w',(Instr.slice 28 (.slice a n cap) (some (.int .i64 k)) none none).run Tryz.prog w' = .ok (.slice u (n - k) c) w') ∧ ReadC w (.slice u (n - k) c) (ps.drop k):=by
 obtain ⟨B,ho⟩:=h.o;have hone:=zxab (w:=w) (ps:=ps.drop k) fun p hp => h.m p (List.mem_of_mem_drop hp)
 obtain ⟨a',c',e⟩:=h.any;injection e with e1 e2 e3;subst e1 e2 e3;refine ⟨_,_,fun w' => zxar hk size4,⟨_,_,by rw [List.length_drop],?_⟩,hone⟩
 by_cases h0:k = ps.length
 ·left;rw [h0]; simp [cellsC]
 ·right;rcases ho.2 with ⟨e,h0⟩ | ⟨g,cap',cur,e,-,-,hc1,-⟩
  ·omega
  ·injection e with e1 e2 e3;subst e1 e3;rw [if_neg (by omega)]
   refine ⟨g,k * 4,by simp [Addr.add]; omega,fun j u hu => ?_⟩
   have hj:j < (ps.length - k) * 4:=by
    have:=(List.getElem?_eq_some_iff.1 hu).1
    rwa [zqco,List.length_drop] at this
   have hq:j / 4 < ps.length - k:=by omega
   rw [show j = j / 4 * 4 + j % 4 by omega,zqcn _ _ _ (by rw [List.length_drop]; exact hq) (Nat.mod_lt _ (by decide)),List.getElem_drop] at hu
   have:=World.ownsRow.cellAt ho ((k + j / 4) * 4 + j % 4) (by omega)
   rw [zqcn _ _ _ (by omega) (Nat.mod_lt _ (by decide)),hu] at this
   rw [show k * 4 + j = (k + j / 4) * 4 + j % 4 by omega]
   exact this
theorem RdR.head {n cap k:Nat} {w:World} {a:Option Addr} {ps:List (Value × Value × Ce)} (h:RdR w (.slice a n cap) ps) (hk:k ≤ ps.length) :
  (∀ w',(Instr.slice 28 (.slice a n cap) none (some (.int .i64 k)) none).run Tryz.prog w' = .ok (.slice a k cap) w') ∧ ReadC w (.slice a k cap) (ps.take k):=by
 obtain ⟨B,ho⟩:=h.o;have hone:=zxab (w:=w) (ps:=ps.take k) fun p hp => h.m p (List.mem_of_mem_take hp)
 obtain ⟨a',c',e⟩:=h.any;injection e with e1 e2 e3;subst e1 e2 e3;have hlt:(ps.take k).length = k:=List.length_take_of_le hk;rcases ho.2 with ⟨e,h0⟩ | ⟨g,cap',cur,e,-,-,hc1,-⟩
 ·injection e with e1 e2 e3;subst e1 e3;obtain rfl:k = 0:=by omega
  exact ⟨fun w' => zxai (by omega) size4,⟨_,_,rfl,.inl ⟨rfl,rfl⟩⟩,hone⟩
 ·injection e with e1 e2 e3;subst e1 e3;refine ⟨fun w' => zxai (by omega) size4,⟨_,_,by rw [hlt],.inr ⟨g,0,rfl,fun j u hu => ?_⟩⟩,hone⟩
  have hj:j < k * 4:=by
   have:=(List.getElem?_eq_some_iff.1 hu).1
   rwa [zqco,hlt] at this
  have hq:j / 4 < k:=by omega
  rw [show j = j / 4 * 4 + j % 4 by omega,zqcn _ _ _ (by rw [hlt]; exact hq) (Nat.mod_lt _ (by decide)),List.getElem_take] at hu
  have:=World.ownsRow.cellAt ho (j / 4 * 4 + j % 4) (by omega)
  rw [zqcn _ _ _ (by omega) (Nat.mod_lt _ (by decide)),hu] at this
  rw [show 0 + j = j / 4 * 4 + j % 4 by omega]
  exact this
def WithR (w:World) (l:List Ce) (c:Ce) (e:Ending) (w':World):Prop :=
 ∃ r ps,e = .returned (.tuple #[r,.int .i64 (withL l c).1]) ∧ RdR w' r ps ∧ ps.map cellOf = (withL l c).2 ∧ Below w.heap.size w w'
theorem zxbw {w w1:World} {l:List Ce} {c:Ce} {r:Value} {ps:List (Value × Value × Ce)} {x:Ce} {I N:Value} {k k2:Nat} (hw:withL l c = (0,l.take k ++ [x] ++ l.drop k2)) (hp:ps.map cellOf = l)
  (hm:∀ p ∈ ps,CeM w1 p.1 p.2.1 p.2.2) (hx:CeM w1 I N x) (ho:RowC w1 w.heap.size r (ps.take k ++ [(I,N,x)] ++ ps.drop k2)) (hb:Below w.heap.size w w1):WithR w l c (.returned (.tuple #[r,.int .i64 0])) w1:=by
 refine ⟨r,ps.take k ++ [(I,N,x)] ++ ps.drop k2,by rw [hw]; rfl,⟨⟨_,ho⟩,fun p hp => ?_⟩,?_,hb⟩
 ·rcases List.mem_append.1 hp with hp | hp
  ·rcases List.mem_append.1 hp with hp | hp
   ·exact hm p (List.mem_of_mem_take hp)
   ·obtain rfl:p = (I,N,x):=by simpa using hp
    exact hx
  ·exact hm p (List.mem_of_mem_drop hp)
 ·rw [hw,List.map_append,List.map_append,List.map_take,List.map_drop,hp]; rfl
set_option maxHeartbeats 8000000 in
theorem zxbo (w:World) (v:Value) (ps:List (Value × Value × Ce)) (c:Ce) (I N:Value) (hr:RdR w v ps) (hc:CeM w I N c) (wc:CeW c ∧ ShortC 31 c) (wm:∀ p ∈ ps,CeW p.2.2 ∧ ShortC 31 p.2.2) (hl:ps.length ≤ 100000) :
  Calls Tryz.prog 52 #[v,CeV c I N] w (WithR w (ps.map cellOf) c):=by
 obtain ⟨a,cap,rfl⟩:=hr.any;obtain ⟨⟨ia,ik,rfl⟩,na,nk,rfl⟩:=hc.slices;obtain ⟨⟨x0,x1,x2,x3⟩,-⟩:=zqac (heap_alloc_new w (CeO c (.slice ia c.is.length ik) (.slice na c.ns.length nk)));have HX:=zh (And.intro x0 (And.intro x1 (And.intro x2 x3)));have HW0:=zh (zqab w (CeO c (.slice ia c.is.length ik) (.slice na c.ns.length nk)));have HR:=zh (fun w1 (h1:Below w.heap.size w w1) => hr.below h1)
 have HCc:=zh (fun w1 (h1:Below w.heap.size w w1) => hc.below h1)
 have HA:=zh (fun k => @zxbj (ps.map cellOf) c k)
 have HJ:=zh (fun w1 (h1:Below w.heap.size w w1) k (hk:k < ps.length) => show Calls Tryz.prog 42 #[CeV (pg ps k).2.2 (pg ps k).1 (pg ps k).2.1,CeV c (.slice ia c.is.length ik) (.slice na c.ns.length nk)] w1 fun e w' => ∃ I3 N3,e = .returned (.tuple #[CeV (joinC (pg ps k).2.2 c) I3 N3,.int .i64 (errJ (pg ps k).2.2 c)]) ∧ CeOwn w' w1.heap.size I3 N3 (joinC (pg ps k).2.2 c) ∧ Below w1.heap.size w1 w' from by
  have hp:=zxcb hk;refine (zqov w1 (pg ps k).2.2 c _ _ _ _ ((hr.m _ hp).below h1) (hc.below h1) (wm _ hp).1 wc.1 (wm _ hp).2 wc.2).mono ?_;rintro e w2 ⟨y,I3,N3,rfl,h2,h3,h4,h5⟩;obtain rfl:=zqh6 h3 h4;exact ⟨I3,N3,rfl,h2,h5⟩)
 have HF:=zh (fun w1 r x I N k k2 (hw:withL (ps.map cellOf) c = (0,(ps.map cellOf).take k ++ [x] ++ (ps.map cellOf).drop k2)) (h1:Below w.heap.size w w1) (hx:CeM w1 I N x) (ho:RowC w1 w.heap.size r (ps.take k ++ [(I,N,x)] ++ ps.drop k2)) => zxbw hw rfl (fun p hp => (hr.m p hp).below h1) hx ho h1)
 have HRd:=zh hr;clear hr hc wc wm x0 x1 x2 x3;generalize hL:ps.map cellOf = l at HA HF ⊢;have HK:=zh (fun k => show (cg l k).key = (pg ps k).2.2.key from by rw [← hL,pg_cg])
 have HG:=zh (fun k => show cg l k = (pg ps k).2.2 from by rw [← hL,pg_cg])
 have HLn:=zh (show l.length = ps.length from by rw [← hL]; simp)
 clear hL;go_enter Tryz.func52,Tryz.ntmps52;go_wp2_with fail;go_loopw [6] (fun iv wr => ∃ k:Nat,k ≤ ps.length ∧ iv = .int .i64 k ∧ Hid (Below (w.alloc (CeO c (.slice ia c.is.length ik) (.slice na c.ns.length nk))).heap.size (w.alloc (CeO c (.slice ia c.is.length ik) (.slice na c.ns.length nk))) wr) ∧ Hid (∀ j,j < k → (pg ps j).2.2.key < c.key)) (fun iv _ => ps.length - (intOf iv).toNat)
 case atStart => exact ⟨0,Nat.zero_le _,rfl,zh (Below.refl _ _),zh (fun j hj => by omega)⟩
 case round =>
  obtain ⟨k,hk,rfl,HB,HJ2⟩:=hrel;have HB2:=zh (zqaa HW0.out HB.out);have y0:=cell_later HB.out HX.out.1;have y1:=cell_later HB.out HX.out.2.1;have y2:=cell_later HB.out HX.out.2.2.1;have y3:=cell_later HB.out HX.out.2.2.2
  by_cases hlt:k < ps.length
  ·have hlt':(k:Int) < (ps.length:Int):=by omega
   obtain ⟨g,rfl,c0,c1,c2,c3⟩:=(HR.out wr HB2.out).at hlt
   by_cases hs:(pg ps k).2.2.key < c.key
   ·have HJ3:=zh (fun j (hj:j < k + 1) => show (pg ps j).2.2.key < c.key from if e:j = k then e ▸ hs else HJ2.out j (by omega))
    have hd:decide ((pg ps k).2.2.key < c.key) = true:=decide_eq_true hs;clear c1 c2 c3 y1 y2 y3 HJ2;generalize (pg ps k).2.2.key = kx at *;clear hs;go_wp2_with fail;go_quiet (fail);go_wp2_with fail;go_roundw
    case rel => exact ⟨k + 1,by omega,by go_num,zh (zqa8 _ _ HB.out _),HJ3⟩
    case measure => simp [intOf]; omega
   ·have hd:decide ((pg ps k).2.2.key < c.key) = false:=decide_eq_false hs;obtain ⟨hA1,hA2,hA3⟩:=HA.out k (by rw [HLn.out]; exact hk) (fun j hj => by rw [HK.out]; exact HJ2.out j hj) (fun _ => by rw [HK.out]; omega)
    rw [HLn.out,HK.out] at hA1 hA2 hA3
    by_cases hq:(pg ps k).2.2.key = c.key
    ·have heq:((pg ps k).2.2.key == c.key) = true:=by rw [hq]; exact beq_self_eq_true _
     have HJk:=zh (fun w1 h1 => HJ.out w1 h1 k hlt)
     have hgx:cg l k = (pg ps k).2.2:=HG.out k;have HE1:=zh (fun he => hA1 hlt hq he)
     have HE2:=zh (fun he => hA2 hlt hq he)
     rw [hgx] at HE1 HE2;clear hA1 hA2 hA3 hq hs HA HJ HK HG hgx;generalize pg ps k = p at *;obtain ⟨pI,pN,x⟩:=p;simp only at *;go_wp2_with fail;go_quiet (fail);have HBq:=zh (show Below wr.heap.size wr (wr.drewN nq) from zqa8 _ _ (Below.refl _ _) _);have HBw:=zh (zqaa HB2.out HBq.out);have z0:=cell_later HBq.out y0;have z1:=cell_later HBq.out y1;have z2:=cell_later HBq.out y2;have z3:=cell_later HBq.out y3;have e0:=cell_later HBq.out c0;have e1:=cell_later HBq.out c1;have e2:=cell_later HBq.out c2;have e3:=cell_later HBq.out c3;obtain ⟨hup,hmu⟩:=HRd.out.head hk;have HMU:=zh hmu;have hlt3:(ps.take k).length = k:=List.length_take_of_le hk;have HLT:=zh hlt3;clear hmu hlt3 HB HB2 HJ2;clear y0 y1 y2 y3;clear c0 c1 c2 c3;generalize wr.drewN nq = W at *;have h1:=zxay W HBw.out.size;have h2:=HMU.out.below (zqaa HBw.out (zqab W (.cells #[] 38)));have h4:=zh (fun (ops:Array Oper) (rest:List Oper) (o:Oper) (a:Act) (Q:Exit → Act → World → Prop) hw s x ho hs hx => zxak (W.alloc (.cells #[] 38)) (ops:=ops) (rest:=rest) (o:=o) (a:=a) (Q:=Q) hw s x ho w.heap.size _ _ [] (ps.take k) hs hx h1 h2 (by rw [HLT.out]; simp; omega) (by have:=HBw.out.size; simp; omega))
     clear h1 h2;go_wp2_with (at_builtin; refine h4.out _ _ _ _ _ (by rfl) _ _ (by rfl) (by rfl) (by rfl) ?_; intro v6 w6 hown6 hg6)
     have HO6:=zh (show RowC w6 w.heap.size v6 (ps.take k) from hown6);have HB6:=zh (zxan hg6);obtain ⟨p6,n6,c6,rfl⟩:=RowC.shape hown6;clear hown6 hg6;clear h4;have HBw6:=zh (zqaa HBw.out HB6.out);have y0:=cell_later HB6.out z0;have y1:=cell_later HB6.out z1;have y2:=cell_later HB6.out z2;have y3:=cell_later HB6.out z3;have f0:=cell_later HB6.out e0;have f1:=cell_later HB6.out e1;have f2:=cell_later HB6.out e2;have f3:=cell_later HB6.out e3;clear z0 z1 z2 z3;clear e0 e1 e2 e3;clear HMU hup;go_wp2_with fail;go_quiet (fail);have HBr:=zh (show Below w6.heap.size w6 (w6.drewN nq) from zqa8 _ _ (Below.refl _ _) _);have HBv:=zh (zqaa HBw6.out HBr.out);have HO7:=zh (show RowC (w6.drewN nq) w.heap.size (.slice p6 n6 c6) (ps.take k) from HO6.out);have z0:=cell_later HBr.out y0;have z1:=cell_later HBr.out y1;have z2:=cell_later HBr.out y2;have z3:=cell_later HBr.out y3;have g0:=cell_later HBr.out f0;have g1:=cell_later HBr.out f1;have g2:=cell_later HBr.out f2;have g3:=cell_later HBr.out f3;clear y0 y1 y2 y3;clear f0 f1 f2 f3;clear HO6 HBr HBw6 HB6 HBw HBq;generalize w6.drewN nq = V at *;go_wp2_with fail;generalize joinC x c = y at *;generalize errJ x c = E at *;have HJv:=zh (fun w1 (h1:Below V.heap.size V w1) => HJk.out w1 (zqaa HBv.out h1))
     have hal:=zqab V.drew (.cells #[.int .u64 0,.int .i64 0,.slice none 0 0,.slice none 0 0] 38);have hal2:=zqab V (.cells #[.int .u64 0,.int .i64 0,.slice none 0 0,.slice none 0 0] 38);have a0:(V.drew.alloc (.cells #[.int .u64 0,.int .i64 0,.slice none 0 0,.slice none 0 0] 38)).cell? _ = _:=cell_later hal g0;have a1:(V.drew.alloc (.cells #[.int .u64 0,.int .i64 0,.slice none 0 0,.slice none 0 0] 38)).cell? _ = _:=cell_later hal g1;have a2:(V.drew.alloc (.cells #[.int .u64 0,.int .i64 0,.slice none 0 0,.slice none 0 0] 38)).cell? _ = _:=cell_later hal g2;have a3:(V.drew.alloc (.cells #[.int .u64 0,.int .i64 0,.slice none 0 0,.slice none 0 0] 38)).cell? _ = _:=cell_later hal g3;have b0:(V.drew.alloc (.cells #[.int .u64 0,.int .i64 0,.slice none 0 0,.slice none 0 0] 38)).cell? _ = _:=cell_later hal z0;have b1:(V.drew.alloc (.cells #[.int .u64 0,.int .i64 0,.slice none 0 0,.slice none 0 0] 38)).cell? _ = _:=cell_later hal z1;have b2:(V.drew.alloc (.cells #[.int .u64 0,.int .i64 0,.slice none 0 0,.slice none 0 0] 38)).cell? _ = _:=cell_later hal z2;have b3:(V.drew.alloc (.cells #[.int .u64 0,.int .i64 0,.slice none 0 0,.slice none 0 0] 38)).cell? _ = _:=cell_later hal z3;have c0:(V.alloc (.cells #[.int .u64 0,.int .i64 0,.slice none 0 0,.slice none 0 0] 38)).cell? _ = _:=cell_later hal2 g0;have c1:(V.alloc (.cells #[.int .u64 0,.int .i64 0,.slice none 0 0,.slice none 0 0] 38)).cell? _ = _:=cell_later hal2 g1;have c2:(V.alloc (.cells #[.int .u64 0,.int .i64 0,.slice none 0 0,.slice none 0 0] 38)).cell? _ = _:=cell_later hal2 g2;have c3:(V.alloc (.cells #[.int .u64 0,.int .i64 0,.slice none 0 0,.slice none 0 0] 38)).cell? _ = _:=cell_later hal2 g3;have d0:(V.alloc (.cells #[.int .u64 0,.int .i64 0,.slice none 0 0,.slice none 0 0] 38)).cell? _ = _:=cell_later hal2 z0;have d1:(V.alloc (.cells #[.int .u64 0,.int .i64 0,.slice none 0 0,.slice none 0 0] 38)).cell? _ = _:=cell_later hal2 z1;have d2:(V.alloc (.cells #[.int .u64 0,.int .i64 0,.slice none 0 0,.slice none 0 0] 38)).cell? _ = _:=cell_later hal2 z2;have d3:(V.alloc (.cells #[.int .u64 0,.int .i64 0,.slice none 0 0,.slice none 0 0] 38)).cell? _ = _:=cell_later hal2 z3;clear hal hal2;go_cut [8,9] from 45 to 53 (fun v8 v9 wx => ∃ (M:Nat) (p3 q3:Option Addr) (k3 l3:Nat),v8 = .pointer (some ⟨M,0,none⟩) ∧ v9 = .int .i64 E ∧ Hid (JAt V M y (.slice p3 y.is.length k3) (.slice q3 y.ns.length l3) wx))
     case first =>
      go_region_law (first
       | (go_simp; go_at_call 42; refine (HJv.out _ (by (repeat' first | exact Below.refl _ _ | refine Below.drew ?_ | refine Below.alloc ?_ (by first | exact Nat.le_refl _ | (simp; done) | (simp; omega)) _); done)).mono ?_; rintro e w3 ⟨I3,N3,rfl,hco,hb3⟩; obtain ⟨⟨p3,k3,rfl⟩,q3,l3,rfl⟩:=hco.slices; (first | (have hbW:Below V.heap.size V w3:=zqaw hb3) | (obtain ⟨hMz,hbW⟩:=zqm1 (W:=V) (w2:=w3) (cs:=#[.int .u64 0,.int .i64 0,.slice none 0 0,.slice none 0 0]) (T:=38) hb3; have zf:=zqav hMz; obtain ⟨zz0,zz1,zz2,zz3⟩:=row4 hMz) | (obtain ⟨hMz,hbW⟩:=zqm2 (W:=V) (w2:=w3) (cs:=#[.int .u64 0,.int .i64 0,.slice none 0 0,.slice none 0 0]) (T:=38) hb3; have zf:=zqav hMz; obtain ⟨zz0,zz1,zz2,zz3⟩:=row4 hMz))))
      all_goals
       go_wp2_with fail;go_meet
       first
        | (have h1:=zxa3 hMz hbW hco (by first | exact Nat.le_refl _ | (simp; done) | (simp; omega)); exact ⟨_,p3,q3,k3,l3,rfl,rfl,zh h1⟩)
        | (have h1:=zxa2 hbW hco (by first | exact Nat.le_refl _ | (simp; done) | (simp; omega)); exact ⟨_,p3,q3,k3,l3,rfl,rfl,zh h1⟩)
     case rest =>
      obtain ⟨M,p3,q3,k3,l3,rfl,rfl,hC⟩:=hcut;have HBc:=zh (zqaa HBv.out hC.out.1);have HCo:=zh (show CeS w.heap.size wc (.slice p3 y.is.length k3) (.slice q3 y.ns.length l3) y from zqmn (hC.out.2.2.2.low HBv.out.size));have HOx:=zh (show RowC wc w.heap.size (.slice p6 n6 c6) (ps.take k) from zqaj HO7.out hC.out.1);obtain ⟨m0,m1,m2,m3⟩:=row4 hC.out.2.2.1;clear a0 a1 a2 a3 b0 b1 b2 b3 c0 c1 c2 c3 d0 d1 d2 d3 g0 g1 g2 g3 z0 z1 z2 z3 HJv HJk hC HO7 HBv
      by_cases hE:E = 0
      ·subst hE;have HEj:=zh (HE1.out (by trivial))
       clear HE1 HE2;obtain ⟨u,uc,htl,hmt⟩:=HRd.out.tail (k:=k + 1) hlt;have HMT:=zh hmt;have HLD:=zh (show (ps.drop (k + 1)).length = ps.length - (k + 1) from List.length_drop);clear hmt;have htl1:∀ w',(Instr.slice 28 (.slice (some ⟨g,0,none⟩) ps.length cap) (some (.int .i64 ((k:Int) + 1))) none none).run Tryz.prog w' = .ok (.slice u (ps.length - (k + 1)) uc) w':=fun w' => by simpa using htl w'
       have hwk:IntKind.i64.wrap ((k:Int) + 1) = (k:Int) + 1:=IntWalk.i64_in _ (by omega)
       clear htl;go_wp2_with fail;go_region_law (first
        | (refine zxac _ (by rfl) _ _ (by rfl) w.heap.size _ _ (ps.take k ++ [(Value.slice p3 y.is.length k3,Value.slice q3 y.ns.length l3,y)]) (ps.drop (k + 1)) (by rfl) (by rfl) HO9.out (HMT.out.below HB9.out) (by rw [List.length_append,HLT.out,HLD.out]; simp; omega) HB9.out.size ?_; intro v8 w8 hown8 hg8; have HO8:=zh hown8; have HB8:=zh (HB9.out.grown hg8 HB9.out.size (fun j hj => (HO9.out.lt j hj).1)); have HK8:=zh (zqhn HO9.out (Nat.le_refl _) HB9.out.size zqic hg8); obtain ⟨p8,n8,c8,rfl⟩:=RowC.shape hown8; clear hown8 hg8)
        | (refine zxac _ (by rfl) _ _ (by rfl) w.heap.size _ _ (ps.take k) [(Value.slice p3 y.is.length k3,Value.slice q3 y.ns.length l3,y)] (by rfl) (by rfl) (RowC.drew (HOx.out.alloc _)) (ReadC.drew (one15 wc (Value.slice p3 y.is.length k3,Value.slice q3 y.ns.length l3,y) ⟨rfl,rfl⟩)) (by rw [HLT.out]; simp; omega) (by have:=HBc.out.size; simp; omega) ?_; intro v7 w7 hown7 hg7; have HO9:=zh hown7; have HB9:=zh ((HBc.out.alloc HBc.out.size (.cells #[.int .u64 y.key,.int .i64 y.cnt,.slice p3 y.is.length k3,.slice q3 y.ns.length l3] 38)).drew.grown hg7 (by have:=HBc.out.size; simp; omega) (fun j hj => (HOx.out.lt j hj).1)); have HK9:=zh (zxbs HOx.out (Nat.le_refl _) HBc.out.size hg7); obtain ⟨p7,n7,c7,rfl⟩:=RowC.shape hown7; clear hown7 hg7))
       go_wp2_with fail;go_ret2;exact HF.out _ _ y _ _ k (k + 1) HEj.out HB8.out (HCo.out.keep (HK9.out.trans HK8.out)).mem HO8.out
      ·have hE':¬ (E:Int) = 0:=by omega
       have HEn:=zh (HE2.out hE);clear HE1 HE2;go_wp2_with fail;go_ret2;exact ⟨_,[],congrArg (fun q:Nat × List Ce => Ending.returned (.tuple #[.slice none 0 0,.int .i64 q.1])) HEn.out.symm,RdR.nil _,(congrArg Prod.snd HEn.out).symm,HBc.out⟩
    ·have heq:((pg ps k).2.2.key == c.key) = false:=beq_false_of_ne hq;have HE:=zh (hA3 (fun _ => hq))
     clear hA1 hA2 hA3 hq hs HA HJ HK HG;generalize pg ps k = p at *;obtain ⟨pI,pN,x⟩:=p;simp only at *;go_wp2_with fail;go_quiet (fail);have HBq:=zh (show Below wr.heap.size wr (wr.drewN nq) from zqa8 _ _ (Below.refl _ _) _);have HBw:=zh (zqaa HB2.out HBq.out);have z0:=cell_later HBq.out y0;have z1:=cell_later HBq.out y1;have z2:=cell_later HBq.out y2;have z3:=cell_later HBq.out y3;have e0:=cell_later HBq.out c0;have e1:=cell_later HBq.out c1;have e2:=cell_later HBq.out c2;have e3:=cell_later HBq.out c3;obtain ⟨hup,hmu⟩:=HRd.out.head hk;have HMU:=zh hmu;have hlt3:(ps.take k).length = k:=List.length_take_of_le hk;have HLT:=zh hlt3;clear hmu hlt3 HB HB2 HJ2;clear y0 y1 y2 y3;clear c0 c1 c2 c3;generalize wr.drewN nq = W at *;have h1:=zxay W HBw.out.size;have h2:=HMU.out.below (zqaa HBw.out (zqab W (.cells #[] 38)));have h4:=zh (fun (ops:Array Oper) (rest:List Oper) (o:Oper) (a:Act) (Q:Exit → Act → World → Prop) hw s x ho hs hx => zxak (W.alloc (.cells #[] 38)) (ops:=ops) (rest:=rest) (o:=o) (a:=a) (Q:=Q) hw s x ho w.heap.size _ _ [] (ps.take k) hs hx h1 h2 (by rw [HLT.out]; simp; omega) (by have:=HBw.out.size; simp; omega))
     clear h1 h2;go_wp2_with (at_builtin; refine h4.out _ _ _ _ _ (by rfl) _ _ (by rfl) (by rfl) (by rfl) ?_; intro v6 w6 hown6 hg6)
     have HO6:=zh (show RowC w6 w.heap.size v6 (ps.take k) from hown6);have HB6:=zh (zxan hg6);obtain ⟨p6,n6,c6,rfl⟩:=RowC.shape hown6;clear hown6 hg6;clear h4;have HBw6:=zh (zqaa HBw.out HB6.out);have y0:=cell_later HB6.out z0;have y1:=cell_later HB6.out z1;have y2:=cell_later HB6.out z2;have y3:=cell_later HB6.out z3;have f0:=cell_later HB6.out e0;have f1:=cell_later HB6.out e1;have f2:=cell_later HB6.out e2;have f3:=cell_later HB6.out e3;clear z0 z1 z2 z3;clear e0 e1 e2 e3;clear HMU hup;go_wp2_with fail;go_quiet (fail);have HBr:=zh (show Below w6.heap.size w6 (w6.drewN nq) from zqa8 _ _ (Below.refl _ _) _);have HBv:=zh (zqaa HBw6.out HBr.out);have HO7:=zh (show RowC (w6.drewN nq) w.heap.size (.slice p6 n6 c6) (ps.take k) from HO6.out);have z0:=cell_later HBr.out y0;have z1:=cell_later HBr.out y1;have z2:=cell_later HBr.out y2;have z3:=cell_later HBr.out y3;have g0:=cell_later HBr.out f0;have g1:=cell_later HBr.out f1;have g2:=cell_later HBr.out f2;have g3:=cell_later HBr.out f3;clear y0 y1 y2 y3;clear f0 f1 f2 f3;clear HO6 HBr HBw6 HB6 HBw HBq;generalize w6.drewN nq = V at *;obtain ⟨u,uc,htl,hmt⟩:=HRd.out.tail (k:=k) hk;have HMT:=zh hmt;have HLD:=zh (show (ps.drop (k)).length = ps.length - (k) from List.length_drop);clear hmt;go_wp2_with fail;go_region_law (first
      | (refine zxac _ (by rfl) _ _ (by rfl) w.heap.size _ _ (ps.take k ++ [(Value.slice ia c.is.length ik,Value.slice na c.ns.length nk,c)]) (ps.drop k) (by rfl) (by rfl) HO9.out (HMT.out.below HB9.out) (by rw [List.length_append,HLT.out,HLD.out]; simp; omega) HB9.out.size ?_; intro v8 w8 hown8 hg8; have HO8:=zh hown8; have HB8:=zh (HB9.out.grown hg8 HB9.out.size (fun j hj => (HO9.out.lt j hj).1)); obtain ⟨p8,n8,c8,rfl⟩:=RowC.shape hown8; clear hown8 hg8)
      | (refine zxac _ (by rfl) _ _ (by rfl) w.heap.size _ _ (ps.take k) [(Value.slice ia c.is.length ik,Value.slice na c.ns.length nk,c)] (by rfl) (by rfl) (RowC.drew (HO7.out.alloc _)) (ReadC.drew (one15 V (Value.slice ia c.is.length ik,Value.slice na c.ns.length nk,c) ⟨rfl,rfl⟩)) (by rw [HLT.out]; simp; omega) (by have:=HBv.out.size; simp; omega) ?_; intro v7 w7 hown7 hg7; have HO9:=zh hown7; have HB9:=zh ((HBv.out.alloc HBv.out.size (.cells #[.int .u64 c.key,.int .i64 c.cnt,.slice ia c.is.length ik,.slice na c.ns.length nk] 38)).drew.grown hg7 (by have:=HBv.out.size; simp; omega) (fun j hj => (HO7.out.lt j hj).1)); obtain ⟨p7,n7,c7,rfl⟩:=RowC.shape hown7; clear hown7 hg7))
     go_wp2_with fail;go_ret2;exact HF.out _ _ _ _ _ k k (HE.out) HB8.out (HCc.out _ HB8.out) HO8.out
  ·obtain rfl:k = ps.length:=by omega
   have hlt':¬ (ps.length:Int) < (ps.length:Int):=by omega
   obtain ⟨-,-,hA3⟩:=HA.out ps.length (by rw [HLn.out]; exact Nat.le_refl _) (fun j hj => by rw [HK.out]; exact HJ2.out j hj) (fun h => by rw [HLn.out] at h; omega)
   rw [HLn.out] at hA3;have HE:=zh (hA3 (fun h => absurd h (Nat.lt_irrefl _)))
   clear hA3 HA HJ HK HG;go_wp2_with fail;go_quiet (fail);have HBq:=zh (show Below wr.heap.size wr (wr.drewN nq) from zqa8 _ _ (Below.refl _ _) _);have HBw:=zh (zqaa HB2.out HBq.out);have z0:=cell_later HBq.out y0;have z1:=cell_later HBq.out y1;have z2:=cell_later HBq.out y2;have z3:=cell_later HBq.out y3;obtain ⟨hup,hmu⟩:=HRd.out.head hk;have HMU:=zh hmu;have hlt3:(ps.take ps.length).length = ps.length:=List.length_take_of_le hk;have HLT:=zh hlt3;clear hmu hlt3 HB HB2 HJ2;clear y0 y1 y2 y3;generalize wr.drewN nq = W at *;have h1:=zxay W HBw.out.size;have h2:=HMU.out.below (zqaa HBw.out (zqab W (.cells #[] 38)));have h4:=zh (fun (ops:Array Oper) (rest:List Oper) (o:Oper) (a:Act) (Q:Exit → Act → World → Prop) hw s x ho hs hx => zxak (W.alloc (.cells #[] 38)) (ops:=ops) (rest:=rest) (o:=o) (a:=a) (Q:=Q) hw s x ho w.heap.size _ _ [] (ps.take ps.length) hs hx h1 h2 (by rw [HLT.out]; simp; omega) (by have:=HBw.out.size; simp; omega))
   clear h1 h2;go_wp2_with (at_builtin; refine h4.out _ _ _ _ _ (by rfl) _ _ (by rfl) (by rfl) (by rfl) ?_; intro v6 w6 hown6 hg6)
   have HO6:=zh (show RowC w6 w.heap.size v6 (ps.take ps.length) from hown6);have HB6:=zh (zxan hg6);obtain ⟨p6,n6,c6,rfl⟩:=RowC.shape hown6;clear hown6 hg6;clear h4;have HBw6:=zh (zqaa HBw.out HB6.out);have y0:=cell_later HB6.out z0;have y1:=cell_later HB6.out z1;have y2:=cell_later HB6.out z2;have y3:=cell_later HB6.out z3;clear z0 z1 z2 z3;clear HMU hup;go_wp2_with fail;go_quiet (fail);have HBr:=zh (show Below w6.heap.size w6 (w6.drewN nq) from zqa8 _ _ (Below.refl _ _) _);have HBv:=zh (zqaa HBw6.out HBr.out);have HO7:=zh (show RowC (w6.drewN nq) w.heap.size (.slice p6 n6 c6) (ps.take ps.length) from HO6.out);have z0:=cell_later HBr.out y0;have z1:=cell_later HBr.out y1;have z2:=cell_later HBr.out y2;have z3:=cell_later HBr.out y3;clear y0 y1 y2 y3;clear HO6 HBr HBw6 HB6 HBw HBq;generalize w6.drewN nq = V at *;obtain ⟨u,uc,htl,hmt⟩:=HRd.out.tail (k:=ps.length) hk;rw [Nat.sub_self] at htl hmt;have HMT:=zh hmt;have HLD:=zh (show (ps.drop (ps.length)).length = ps.length - (ps.length) from List.length_drop);clear hmt;go_wp2_with fail;go_region_law (first
    | (refine zxac _ (by rfl) _ _ (by rfl) w.heap.size _ _ (ps.take ps.length ++ [(Value.slice ia c.is.length ik,Value.slice na c.ns.length nk,c)]) (ps.drop ps.length) (by rfl) (by rfl) HO9.out (HMT.out.below HB9.out) (by rw [List.length_append,HLT.out,HLD.out]; simp; omega) HB9.out.size ?_; intro v8 w8 hown8 hg8; have HO8:=zh hown8; have HB8:=zh (HB9.out.grown hg8 HB9.out.size (fun j hj => (HO9.out.lt j hj).1)); obtain ⟨p8,n8,c8,rfl⟩:=RowC.shape hown8; clear hown8 hg8)
    | (refine zxac _ (by rfl) _ _ (by rfl) w.heap.size _ _ (ps.take ps.length) [(Value.slice ia c.is.length ik,Value.slice na c.ns.length nk,c)] (by rfl) (by rfl) (RowC.drew (HO7.out.alloc _)) (ReadC.drew (one15 V (Value.slice ia c.is.length ik,Value.slice na c.ns.length nk,c) ⟨rfl,rfl⟩)) (by rw [HLT.out]; simp; omega) (by have:=HBv.out.size; simp; omega) ?_; intro v7 w7 hown7 hg7; have HO9:=zh hown7; have HB9:=zh ((HBv.out.alloc HBv.out.size (.cells #[.int .u64 c.key,.int .i64 c.cnt,.slice ia c.is.length ik,.slice na c.ns.length nk] 38)).drew.grown hg7 (by have:=HBv.out.size; simp; omega) (fun j hj => (HO7.out.lt j hj).1)); obtain ⟨p7,n7,c7,rfl⟩:=RowC.shape hown7; clear hown7 hg7))
   go_wp2_with fail;go_ret2;exact HF.out _ _ _ _ _ ps.length ps.length (HE.out) HB8.out (HCc.out _ HB8.out) HO8.out
theorem zqju (a:Ce):sameC a a = true:=same_iff.2 ⟨rfl,rfl,rfl,rfl,fun k _ => by simp [sameWh],fun k _ => by simp [sameRe,zqut]⟩
theorem zqsr (l:List Ce):eqsC l l = true:=by
 unfold eqsC;rw [decide_eq_true rfl,Bool.true_and];exact List.all_eq_true.2 fun x hx => zqju _
def LisP (w:World) (R:Nat × List Ce) (e:Ending) (w':World):Prop:=∃ a n c,e = .returned (.tuple #[.slice a n c,.int .i64 R.1]) ∧ n = R.2.length ∧ Cells w' (.slice a n c) R.2 ∧ Below w.heap.size w w'
theorem RollP.lis {w w':World} {R:Nat × List Ce} {e:Ending} (h:RollP w R e w'):LisP w R e w':=by
 obtain ⟨r,ps,rfl,hr,hp,hb⟩:=h;obtain ⟨a,c,rfl⟩:=hr.any;have hc:=hr.cells;rw [hp] at hc;exact ⟨a,_,c,rfl,by rw [← hp,List.length_map],hc,hb⟩
theorem Facts.len {w:World} {v:Value} {l:List Fa} (h:Facts w v l):∃ a c,v = .slice a l.length c:=by
 obtain ⟨a,c,rfl,-⟩:=h;exact ⟨a,c,rfl⟩
end Go.Proofs.YtmnbljijnbhghaaGreatDoor
