/- Contracts that the law leans on: Celp Cemi Ceml Cemm Cemn Cemr Cemo. -/
import Derived.BigQuiet
import Derived.Deep.CutBlock
import Derived.Deep.AppendLies
import Derived.Deep.RegionHeld3
import Derived.Deep.QuietTactic
import Derived.Lib.ItoaNum
import Derived.OwnWalk
import Derived.Deep.RegionLawGrows
import Derived.Laws.FloatArith
import Derived.WalkLawsBesides
import Derived.Laws.Externs
import Derived.Laws.BitsAllLaws
import Derived.Lib.Hide
import Derived.Shelf.Spec.TrailingZeros
import Derived.Laws.Bits64b
import Derived.Lib.BitFns
import Derived.Lib.Small
import Derived.Lib.Strings
import Derived.Lib.Slices
import Derived.Lib.Walk
import Derived.WalkKit
import Derived.WalkSpells
import Derived.WalkSmall
import Derived.Laws.Bits64
import Derived.Deep.Draws
import Derived.Deep.DeepCutAuto
import Derived.Laws.BytesArg
import Derived.Deep.LoopGhost
import Derived.Deep.RegionLaw
import Derived.Outline
import Derived.Deep.RegionWith
import Derived.RegionTactic
import Derived.ChangeAlike
import Derived.Laws.IdiomStrings
import Derived.ProofKit
import Derived.LaidMore
import Derived.OpenShut
import Derived.Stop.Joined
import Derived.Lib.LaidTab
import Derived.ChangeSlices
import Derived.Deep.RegionHeld
import Derived.Deep.DrawnRows
import Derived.Lib.AppendZeros
import Derived.Maps.OwnSet
import Derived.Below
import Derived.SliceStrings
import Derived.Deep.CutRange
import Derived.Deep.Slices
import Derived.Deep.Fields
import Derived.ChangeSame
import Derived.Lib.SmallJoins
import Derived.Lib.Bytealg
import Derived.Lib.ConvBytes
import Derived.Laws.CopyRow
import Derived.Laws.IdiomCopy
import Derived.Laws.OwnMore
import Derived.Laws.MakeOwn
import Derived.Maps.Ext
import Derived.Maps.RangeWalk
import Derived.Sort.OwnSorted
import Derived.Shelf.SlSortCmp.WholeK
import Derived.Shelf.SlSortCmp.NoneTotal
import Derived.Test.YtmnbljijnbhghaaGreatDoorProg
import Derived.Test.YtmnbljijnbhghaaGreatDoorRows
import Derived.Test.YtmnbljijnbhghaaGreatDoorPb01
import Derived.Test.YtmnbljijnbhghaaGreatDoorPt01
import Derived.Test.YtmnbljijnbhghaaGreatDoorPt02
import Derived.Test.YtmnbljijnbhghaaGreatDoorPt03
import Derived.Test.YtmnbljijnbhghaaGreatDoorPt04
import Derived.Test.YtmnbljijnbhghaaGreatDoorPt05
import Derived.Test.YtmnbljijnbhghaaGreatDoorPt06
import Derived.Test.YtmnbljijnbhghaaGreatDoorPt07
import Derived.Test.YtmnbljijnbhghaaGreatDoorPt08
import Derived.Test.YtmnbljijnbhghaaGreatDoorPt09
import Derived.Test.YtmnbljijnbhghaaGreatDoorPt10
import Derived.Test.YtmnbljijnbhghaaGreatDoorPt11
import Derived.Test.YtmnbljijnbhghaaGreatDoorPt12
import Derived.Test.YtmnbljijnbhghaaGreatDoorPt13
import Derived.Test.YtmnbljijnbhghaaGreatDoorPt14
import Derived.Test.YtmnbljijnbhghaaGreatDoorPt15
import Derived.Test.YtmnbljijnbhghaaGreatDoorPt16
import Derived.Test.YtmnbljijnbhghaaGreatDoorPt17
import Derived.Test.YtmnbljijnbhghaaGreatDoorPt18
import Derived.Test.YtmnbljijnbhghaaGreatDoorPt19
import Derived.Test.YtmnbljijnbhghaaGreatDoorPt20
import Derived.Test.YtmnbljijnbhghaaGreatDoorPt21
import Derived.Test.YtmnbljijnbhghaaGreatDoorPt22
import Derived.Test.YtmnbljijnbhghaaGreatDoorPt23
import Derived.Test.YtmnbljijnbhghaaGreatDoorPt24
import Derived.Test.YtmnbljijnbhghaaGreatDoorPt25
import Derived.Test.YtmnbljijnbhghaaGreatDoorPt26
import Derived.Test.YtmnbljijnbhghaaGreatDoorPt27
import Derived.Test.YtmnbljijnbhghaaGreatDoorPt28
import Derived.Test.YtmnbljijnbhghaaGreatDoorPt29
import Derived.Test.YtmnbljijnbhghaaGreatDoorPt30
import Derived.Test.YtmnbljijnbhghaaGreatDoorPt31
import Derived.Test.YtmnbljijnbhghaaGreatDoorPt32
import Derived.Test.YtmnbljijnbhghaaGreatDoorPt33
namespace Go.Proofs.YtmnbljijnbhghaaGreatDoor
set_option maxRecDepth 100000
open Go.RowKit
set_option linter.unusedVariables false
def lenV:Value → Nat
 | .slice _ n _ => n
 | _ => 0
theorem size4:∃ i,Tryz.prog.info? 38 = some i ∧ i.size = 4:=by
 obtain ⟨i0,hi,hz0,hz1,hz2⟩:=info_parts Tryz.infoCell;exact ⟨i0,hi,hz1⟩
theorem zxb3 {w:World} {a:Option Addr} {cap l k:Nat} (hk:k ≤ l) (hs:∃ i,Tryz.prog.info? 38 = some i ∧ i.size = 4):(Instr.slice 28 (.slice a l cap) (some (.int .i64 k)) none none).run Tryz.prog w = .ok (.slice (if cap = k then a else a.map (·.add (k * 4))) (l - k) (cap - k)) w:=by
 obtain ⟨i,hi,hs⟩:=hs;simp [Instr.slice,run_underlying Tryz.underlying28,Instr.sliceBounds,Instr.sliceBound,asIntOf,sizeOf,typeInfo,hi,hs,hk,go_sem]
theorem zxav {w:World} {a:Option Addr} {cap:Nat} {l:List Ce} (h:Cells w (.slice a l.length cap) l) (hl:1 ≤ l.length) :
  ∃ u c,(∀ w',(Instr.slice 28 (.slice a l.length cap) (some (.int .i64 1)) none none).run Tryz.prog w' = .ok (.slice u (l.length - 1) c) w') ∧ Cells w (.slice u (l.length - 1) c) (l.drop 1):=by
 refine ⟨(if cap = 1 then a else a.map (·.add (1 * 4))),cap - 1,fun w' => zxb3 (k:=1) hl size4,?_⟩
 obtain ⟨a',cap',e,h1,h2,h3⟩:=h;injection e with e1 e2 e3;subst e1 e3;have hd:(l.drop 1).length = l.length - 1:=by simp
 refine ⟨_,_,by rw [hd],by rw [hd]; omega,by rw [hd]; omega,?_⟩
 by_cases h0:l.length = 1
 ·exact .inl (List.length_eq_zero_iff.1 (by rw [hd]; omega))
 ·rcases h3 with rfl | ⟨b,off,rfl,hlt,hc⟩
  ·simp at hl
  ·rw [if_neg (by omega)]
   refine .inr ⟨b,off + 1 * 4,by simp [Addr.add],hlt,fun i hi => ?_⟩
   rw [hd] at hi;obtain ⟨I,N,hq⟩:=hc (i + 1) (by omega)
   have e:cg (l.drop 1) i = cg l (i + 1):=by
    unfold cg;rw [List.getD_eq_getElem?_getD,List.getD_eq_getElem?_getD,List.getElem?_drop,Nat.add_comm]
   rw [e,show off + 1 * 4 + i * 4 = off + (i + 1) * 4 by omega]
   exact ⟨I,N,hq⟩
def preE (acc:List Ce) (r:Nat × List Ce):Nat × List Ce:=if r.1 = 0 then (0,acc ++ r.2) else (r.1,[])
theorem pre_nil {r:Nat × List Ce} (h:r.1 ≠ 0 → r.2 = []):preE [] r = r:=by
 unfold preE
 by_cases e:r.1 = 0
 ·rw [if_pos e]; exact Prod.ext e.symm rfl
 ·rw [if_neg e]; exact Prod.ext rfl (h e).symm
theorem zxat {acc:List Ce} {x:Ce} {r:Nat × List Ce}:preE acc (consE x r) = preE (acc ++ [x]) r:=by
 unfold preE consE
 by_cases e:r.1 = 0
 ·rw [if_pos e,if_pos rfl,if_pos e]; simp
 ·rw [if_neg e,if_neg e,if_neg e]
theorem zxba:∀ (a b:List Ce),(mergeC a b).1 ≠ 0 → (mergeC a b).2 = []
 | [],b,h => by unfold mergeC at h; exact absurd rfl h
 | x :: a,[],h => by unfold mergeC at h; exact absurd rfl h
 | x :: a,y :: b,h => by
  have hc:∀ z r,(consE z r).1 ≠ 0 → (consE z r).2 = []:=fun z r h => by
   unfold consE at h ⊢
   by_cases e:r.1 = 0
   ·rw [if_pos e] at h; exact absurd rfl h
   ·rw [if_neg e]
  unfold mergeC at h ⊢
  by_cases h1:x.key < y.key
  ·rw [if_pos h1] at h ⊢; exact hc _ _ h
  ·rw [if_neg h1] at h ⊢
   by_cases h2:y.key < x.key
   ·rw [if_pos h2] at h ⊢; exact hc _ _ h
   ·rw [if_neg h2] at h ⊢
    by_cases h3:errJ x y = 0
    ·rw [if_pos h3] at h ⊢; exact hc _ _ h
    ·rw [if_neg h3]
theorem zxae {x y:Ce} {a b:List Ce} (h:x.key < y.key):mergeC (x :: a) (y :: b) = consE x (mergeC a (y :: b)):=by rw [mergeC,if_pos h]
theorem zxbh {x y:Ce} {a b:List Ce} (h:y.key < x.key):mergeC (x :: a) (y :: b) = consE y (mergeC (x :: a) b):=by rw [mergeC,if_neg (by omega),if_pos h]
theorem zxbg {x y:Ce} {a b:List Ce} (h1:x.key = y.key) (h:errJ x y = 0):mergeC (x :: a) (y :: b) = consE (joinC x y) (mergeC a b):=by rw [mergeC,if_neg (by omega),if_neg (by omega),if_pos h]
theorem zxbi {x y:Ce} {a b:List Ce} (h1:x.key = y.key) (h:errJ x y ≠ 0):mergeC (x :: a) (y :: b) = (errJ x y,[]):=by rw [mergeC,if_neg (by omega),if_neg (by omega),if_neg h]
theorem zxb8 {a b:List Ce} (h:a.length = 0 ∨ b.length = 0):mergeC a b = (0,a ++ b):=by
 rcases h with h | h
 ·obtain rfl:=List.length_eq_zero_iff.1 h; unfold mergeC; simp
 ·obtain rfl:=List.length_eq_zero_iff.1 h;cases a <;> (unfold mergeC; simp)
theorem zxa7 {l:List Ce} (h:1 ≤ l.length):l = cg l 0 :: l.drop 1:=by
 cases l with
 | nil => simp at h
 | cons x l => rfl
theorem zxam {B:Nat} {w W w3:World} {v v':Value} {ps:List (Value × Value × Ce)} {p:Value × Value × Ce} {o:Obj} (h:CsRow B W v ps) (hb:Below B w W) (hB:B ≤ W.heap.size) (hc:CeS B W p.1 p.2.1 p.2.2)
  (hown:w3.ownsRow B 38 4 v' (ps.length + 1) (cellsC ps ++ rowC p)) (hg:(W.alloc o).grownBy w3 v.ownBlock):CsRow B w3 v' (ps ++ [p]) ∧ Below B w w3:=by
 have hW:=h.below hB (zqab W o);have hBW:B ≤ (W.alloc o).heap.size:=Nat.le_trans hB (zqab W o).size;refine ⟨hW.push hBW (fun q hq => ?_) (by simpa [cellsC] using hown) hg,(hb.trans ((zqab W o).mono hB)).trans (hW.keeps hBW hg).b⟩
 obtain rfl:q = p:=by simpa using hq
 exact hc.keep (zqag hB (zqab W o))
theorem zxal {w:World} {p:Value × Value × Ce} (h:CeM w p.1 p.2.1 p.2.2):∀ u ∈ rowC p,u.oneCell' = true:=fun u hu => by
 have:=h.ones;simp only [rowC,List.mem_cons,List.not_mem_nil,or_false] at hu;rcases hu with rfl | rfl | rfl | rfl
 ·rfl
 ·rfl
 ·exact this.1
 ·exact this.2
def JAt (W:World) (M:Nat) (c:Ce) (I N:Value) (wx:World):Prop:=Below W.heap.size W wx ∧ W.heap.size ≤ M ∧ wx.heap[M]? = some (.cells (boxV c.key c.cnt I N) 38 (0,0)) ∧ CeOwn wx W.heap.size I N c
theorem zxcg {W w3:World} {c:Ce} {I N:Value} {B:Nat} (hb:Below W.heap.size W w3) (ho:CeOwn w3 B I N c) (hB:W.heap.size ≤ B):JAt W w3.heap.size c I N (w3.alloc (CeO c I N)) :=
 ⟨zqaa hb (zqab _ _),hb.size,heap_alloc_new _ _,(ho.low hB).below (zqab _ _)⟩
theorem zxch {W w3:World} {c:Ce} {I N:Value} {B:Nat} (hM:w3.heap[W.heap.size]? = some (.cells (boxV 0 0 (.slice none 0 0) (.slice none 0 0)) 38 (0,0))) (hb:Below W.heap.size W w3) (ho:CeOwn w3 B I N c) (hB:W.heap.size ≤ B):JAt W W.heap.size c I N (set4 w3 W.heap.size c.key c.cnt I N):=by
 obtain ⟨ps,qs,h1,h2,h3,h4⟩:=ho.low hB;exact ⟨zqao hb (Nat.le_refl _),Nat.le_refl _,zqan hM,ps,qs,zqg7 hM (by decide) (by decide) h1,zqg6 hM (by decide) (by decide) h2,h3,h4⟩
theorem zxbu {w:World} {P:Nat} {T:TypeId} {a b:Value} (h:w.heap[P]? = some (.cells #[a,b] T (0,0))):w.cell? ⟨P,0,none⟩ = some a ∧ w.cell? ⟨P,1,none⟩ = some b:=by simp [World.cell?,h]
theorem zxcn {w w':World} {B E sz n:Nat} {v u:Value} {xs:List Value} (h:w.ownsRow B E sz v n xs) (hg:w.grownBy w' u.ownBlock) (hne:∀ g,v.ownBlock = some g → u.ownBlock ≠ some g):w'.ownsRow B E sz v n xs:=by
 refine ⟨h.1,h.2.imp id ?_⟩;rintro ⟨g,cap,cur,rfl,h1,h2,h3⟩;exact ⟨g,cap,cur,rfl,h1,(hg.block g (Array.getElem?_eq_some_iff.1 h2).1 (fun e => hne g rfl e.symm)).trans h2,h3⟩
def Ap (w:World) (u v:Value):Prop:=∀ g,v.ownBlock = some g → g < w.heap.size ∧ u.ownBlock ≠ some g
theorem Ap.size {w w':World} {u v:Value} (h:Ap w u v) (hs:w.heap.size ≤ w'.heap.size):Ap w' u v:=fun g hg => ⟨Nat.lt_of_lt_of_le (h g hg).1 hs,(h g hg).2⟩
theorem Ap.app {w w':World} {u u' v:Value} (h:Ap w u v) (hb:u'.ownBlock = u.ownBlock ∨ u'.ownBlock = some w.heap.size) (hs:w.heap.size ≤ w'.heap.size):Ap w' u' v:=fun g hg => ⟨Nat.lt_of_lt_of_le (h g hg).1 hs,by
 rcases hb with e | e
 ·rw [e]; exact (h g hg).2
 ·rw [e]; intro q; injection q with q; have:=(h g hg).1; omega⟩
theorem zxcm {w':World} {u v:Value} {B n:Nat} {xs:List Value} {E sz:Nat} (ho:w'.ownsRow B E sz v n xs) (hu:∀ g,u.ownBlock = some g → g < B):Ap w' u v:=fun g hg => by
 rcases ho.2 with ⟨rfl,-⟩ | ⟨g',cap,cur,rfl,h1,h2,-⟩
 ·simp [Value.ownBlock] at hg
 ·have e:g' = g:=by simpa [Value.ownBlock] using hg
  subst e;exact ⟨(Array.getElem?_eq_some_iff.1 h2).1,fun q => by have:=hu _ q; omega⟩
theorem zxcc {w:World} {B E sz n:Nat} {v:Value} {xs:List Value} (h:w.ownsRow B E sz v n xs):∀ g,v.ownBlock = some g → g < w.heap.size:=fun g hg => by
 rcases h.2 with ⟨rfl,-⟩ | ⟨g',cap,cur,rfl,h1,h2,-⟩
 ·simp [Value.ownBlock] at hg
 ·have e:g' = g:=by simpa [Value.ownBlock] using hg
  subst e;exact (Array.getElem?_eq_some_iff.1 h2).1
def MergeP (w:World) (a b:List Ce) (e:Ending) (w':World):Prop:=∃ r,e = .returned (.tuple #[r,.int .i64 (mergeE a b).1]) ∧ ∃ ps,CsRow w.heap.size w' r ps ∧ ps.map cellOf = (mergeE a b).2 ∧ Below w.heap.size w w'
set_option maxHeartbeats 16000000 in
theorem zxb0 (w:World) (u v:Value) (a b:List Ce) (ha:Cells w u a) (hb:Cells w v b) (sa:∀ c ∈ a,Sm c) (sb:∀ c ∈ b,Sm c) (hl:a.length + b.length ≤ 1000) (hT:Tab w) :
  Calls Tryz.prog 25 #[u,v] w (MergeP w a b):=by
 obtain ⟨i0,hi,hz0,hz1,hz2⟩:=info_parts Tryz.infoCell;have HRa:=zh (fun w1 (h1:Below w.heap.size w w1) => zqoq w1 u a (ha.below h1))
 have HRb:=zh (fun w1 (h1:Below w.heap.size w w1) => zqoq w1 v b (hb.below h1))
 have HC0:=zh (And.intro ha hb);have HS0:=zh (And.intro sa sb);have HT:=zh hT;have HOw:=zh (fun w1 I N (c:Ce) (h:CeM w1 I N c) (hs:Sm c) => zqw9 w1 c I N h hs.own)
 have HJn:=zh (fun w1 (h1:Below w.heap.size w w1) I N I' N' (x y:Ce) (hx:CeM w1 I N x) (hy:CeM w1 I' N' y) (sx:Sm x) (sy:Sm y) => zqop w1 x y I N I' N' hx hy sx.w sy.w (sx.s.mono (by decide)) (sy.s.mono (by decide)) (HT.out.call h1))
 obtain ⟨pu,cu,rfl,-⟩:=id ha;obtain ⟨pv,cv,rfl,-⟩:=id hb;unfold MergeP;generalize hG:mergeE a b = G;have HE:=zh (show ∀ ra rb,risingB a = ra → risingB b = rb → G = if ra = true ∧ rb = true then mergeC a b else (1,[]) from fun ra rb e1 e2 => by rw [← hG]; unfold mergeE; rw [e1,e2])
 clear hG;clear ha hb sa sb hT;go_enter Tryz.func25,Tryz.ntmps25;go_wp2_with fail;refine (HRa.out _ (Below.refl _ _)).mono ?_; rintro e w1 ⟨rfl,hb1⟩;have HB1:=zh hb1;clear hb1;have HE2:=zh (HE.out _ _ rfl rfl);generalize risingB a = ra at *;generalize risingB b = rb at *;clear HE;cases ra with
 | false =>
  obtain rfl:G = (1,[]):=HE2.out.trans (by simp)
  go_wp2_with fail;exact bodyPost_ret (v:=.tuple #[.slice none 0 0,.int .i64 1]) (by simp [results,Tryz.results25,go_sem]) rfl ⟨_,rfl,[],CsRow.nil _ _,rfl,HB1.out⟩
 | true =>
 go_wp2_with fail;refine (HRb.out _ HB1.out).mono ?_; rintro e w2 ⟨rfl,hb2⟩;have HB2:=zh (zqaa HB1.out hb2);clear hb2;cases rb with
 | false =>
  obtain rfl:G = (1,[]):=HE2.out.trans (by simp)
  go_wp2_with fail;exact bodyPost_ret (v:=.tuple #[.slice none 0 0,.int .i64 1]) (by simp [results,Tryz.results25,go_sem]) rfl ⟨_,rfl,[],CsRow.nil _ _,rfl,HB2.out⟩
 | true =>
 have hM:G = mergeC a b:=HE2.out.trans (by simp)
 have HMn:=zh (show G.1 ≠ 0 → G.2 = [] by rw [hM]; exact zxba a b)
 have HM0:=zh (show G = preE (([]:List (Value × Value × Ce)).map cellOf) (mergeC a b) by rw [hM]; exact (pre_nil (zxba a b)).symm)
 clear hM HE2 HRa HRb HB1;go_wp2_with fail;go_loopw [0,1,6] (fun va vb vl wr => ∃ (a1 b1:List Ce) (ps:List (Value × Value × Ce)),(∃ p c,va = .slice p a1.length c) ∧ (∃ p c,vb = .slice p b1.length c) ∧ ps.length + a1.length + b1.length ≤ 1000 ∧ Hid (Cells w va a1 ∧ Cells w vb b1) ∧ Hid ((∀ c ∈ a1,Sm c) ∧ ∀ c ∈ b1,Sm c) ∧ Hid (CsRow w.heap.size wr vl ps ∧ Below w.heap.size w wr) ∧ Hid (G = preE (ps.map cellOf) (mergeC a1 b1))) (fun va vb _ _ => lenV va + lenV vb)
 case atStart => exact ⟨a,b,[],⟨_,_,rfl⟩,⟨_,_,rfl⟩,by simpa using hl,HC0,HS0,zh ⟨CsRow.nil _ _,HB2.out⟩,HM0⟩
 case round =>
  clear HC0 HS0 HB2 HM0 hl;obtain ⟨a1,b1,ps,⟨pa,ca,rfl⟩,⟨pb,cb,rfl⟩,hlen,HC,HS,HR,HM⟩:=hrel;obtain ⟨pl,cl,rfl⟩:=HR.out.1.any
  by_cases hab:1 ≤ a1.length ∧ 1 ≤ b1.length
  ·obtain ⟨ha0,hb0⟩:=hab;have ha':(0:Int) < (a1.length:Int):=by omega
   have hb':(0:Int) < (b1.length:Int):=by omega
   have hsz:=HR.out.2.size;obtain ⟨ba,oa,rfl,-,I,N,hx⟩:=(HC.out.1.below HR.out.2).at (i:=0) (by omega)
   obtain ⟨bb,ob,rfl,-,I',N',hy⟩:=(HC.out.2.below HR.out.2).at (i:=0) (by omega)
   obtain ⟨ua,da,hopa,hta⟩:=zxav HC.out.1 ha0;obtain ⟨ub,db,hopb,htb⟩:=zxav HC.out.2 hb0;have HTa:=zh hta;have HTb:=zh htb;have HHa:=zh (zxa7 ha0);have HHb:=zh (zxa7 hb0);have HXY:=zh (And.intro hx.m hy.m);have HSx:=zh (And.intro (HS.out.1 (cg a1 0) (by rw [zqat (by omega)]; exact List.getElem_mem _)) (HS.out.2 (cg b1 0) (by rw [zqat (by omega)]; exact List.getElem_mem _)))
   have HSa:=zh (show ∀ c ∈ a1.drop 1,Sm c from fun c hc => HS.out.1 c (List.mem_of_mem_drop hc))
   have HSb:=zh (show ∀ c ∈ b1.drop 1,Sm c from fun c hc => HS.out.2 c (List.mem_of_mem_drop hc))
   obtain ⟨⟨qi,ki,rfl⟩,qn,kn,rfl⟩:=hx.m.slices;obtain ⟨⟨qi',ki',rfl⟩,qn',kn',rfl⟩:=hy.m.slices;obtain ⟨x0,x1,x2,x3,-⟩:=hx;obtain ⟨y0,y1,y2,y3,-⟩:=hy;simp only [Nat.zero_mul,Nat.add_zero] at x0 x1 x2 x3 y0 y1 y2 y3;generalize cg a1 0 = x at *;generalize cg b1 0 = y at *;clear hta htb;have HD:=zh (fun n => And.intro ((Drawn.refl wr).next n).below (zqaa HR.out.2 ((Drawn.refl wr).next n).below))
   by_cases h1:x.key < y.key
   ·have hd1:decide (x.key < y.key) = true:=decide_eq_true h1;have HM1:=zh (show G = preE (ps.map cellOf ++ [x]) (mergeC (a1.drop 1) b1) from HM.out.trans (by rw [show mergeC a1 b1 = mergeC (x :: a1.drop 1) (y :: b1.drop 1) from congr (congrArg mergeC HHa.out) HHb.out,zxae h1,zxat,← HHb.out]))
    go_wp2_with fail;go_quiet (fail);have HA:=HTa;have HBb:=zh HC.out.2;have HSA:=HSa;have HSB:=zh HS.out.2;have HOc:=zh (fun n => HOw.out (wr.drewN n) (.slice qi x.is.length ki) (.slice qn x.ns.length kn) x (HXY.out.1.below (HD.out n).1) HSx.out.1)
    go_wp2_with fail;refine (HOc.out _).mono ?_; rintro e w3 ⟨I3,N3,rfl,hco,hb3⟩;have HB3:=zh (zqaa (HD.out _).2 hb3);have HR3:=zh (HR.out.1.below hsz (zqaa (HD.out _).1 hb3));have HCo:=zh hco;obtain ⟨⟨p3,k3,rfl⟩,q3,l3,rfl⟩:=hco.slices;have hsz3:=HB3.out.size;clear hco hb3 HOc;go_wp2_with (first | simp only | (at_builtin; refine zqbd _ (by rfl) _ _ 28 rfl w.heap.size 38 i0 CZ 4 64 Tryz.underlying28 hi hz0 hz1 hz2 zqo5 (by decide) _ _ ps.length 1 (cellsC ps) (rowC (.slice p3 x.is.length k3,.slice q3 x.ns.length l3,x)) rfl rfl (zqaj HR3.out.o (zqab _ _)) (zqtu w3 (.slice p3 x.is.length k3,.slice q3 x.ns.length l3,x)) rfl (zxal HCo.out.mem) (by unfold maxLen; omega) (by omega) (by have:=hsz3; simp; omega) ?_; intro v' w4 hown hgrow; have HR4:=zh (zxam HR3.out HB3.out hsz3 (zqmn HCo.out) hown hgrow); obtain ⟨pv',cv',rfl⟩:=zqae hown; clear hown hgrow))
    go_roundw
    case rel => exact ⟨a1.drop 1,b1,ps ++ [(.slice p3 x.is.length k3,.slice q3 x.ns.length l3,x)],⟨_,_,by rw [List.length_drop]⟩,⟨_,_,rfl⟩,by simp; omega,zh ⟨HA.out,HBb.out⟩,zh ⟨HSA.out,HSB.out⟩,zh HR4.out,zh (by rw [List.map_append]; exact HM1.out)⟩
    case measure => simp [lenV]; omega
   ·have hd1:decide (x.key < y.key) = false:=decide_eq_false h1;have H1:=zh h1;go_wp2_with fail;go_quiet (fail)
    revert nq
    intro mq
    by_cases h2:y.key < x.key
    ·have hd2:decide (y.key < x.key) = true:=decide_eq_true h2;have HM1:=zh (show G = preE (ps.map cellOf ++ [y]) (mergeC a1 (b1.drop 1)) from HM.out.trans (by rw [show mergeC a1 b1 = mergeC (x :: a1.drop 1) (y :: b1.drop 1) from congr (congrArg mergeC HHa.out) HHb.out,zxbh h2,zxat,← HHa.out]))
     have HA:=zh HC.out.1;have HBb:=HTb;have HSA:=zh HS.out.1;have HSB:=HSb;go_wp2_with fail;go_quiet (fail);have HOc:=zh (fun n => HOw.out (wr.drewN n) (.slice qi' y.is.length ki') (.slice qn' y.ns.length kn') y (HXY.out.2.below (HD.out n).1) HSx.out.2)
     go_wp2_with fail;refine (HOc.out _).mono ?_; rintro e w3 ⟨I3,N3,rfl,hco,hb3⟩;have HB3:=zh (zqaa (HD.out _).2 hb3);have HR3:=zh (HR.out.1.below hsz (zqaa (HD.out _).1 hb3));have HCo:=zh hco;obtain ⟨⟨p3,k3,rfl⟩,q3,l3,rfl⟩:=hco.slices;have hsz3:=HB3.out.size;clear hco hb3 HOc;go_wp2_with (first | simp only | (at_builtin; refine zqbd _ (by rfl) _ _ 28 rfl w.heap.size 38 i0 CZ 4 64 Tryz.underlying28 hi hz0 hz1 hz2 zqo5 (by decide) _ _ ps.length 1 (cellsC ps) (rowC (.slice p3 y.is.length k3,.slice q3 y.ns.length l3,y)) rfl rfl (zqaj HR3.out.o (zqab _ _)) (zqtu w3 (.slice p3 y.is.length k3,.slice q3 y.ns.length l3,y)) rfl (zxal HCo.out.mem) (by unfold maxLen; omega) (by omega) (by have:=hsz3; simp; omega) ?_; intro v' w4 hown hgrow; have HR4:=zh (zxam HR3.out HB3.out hsz3 (zqmn HCo.out) hown hgrow); obtain ⟨pv',cv',rfl⟩:=zqae hown; clear hown hgrow))
     go_roundw
     case rel => exact ⟨a1,b1.drop 1,ps ++ [(.slice p3 y.is.length k3,.slice q3 y.ns.length l3,y)],⟨_,_,rfl⟩,⟨_,_,by rw [List.length_drop]⟩,by simp; omega,zh ⟨HA.out,HBb.out⟩,zh ⟨HSA.out,HSB.out⟩,zh HR4.out,zh (by rw [List.map_append]; exact HM1.out)⟩
     case measure => simp [lenV]; omega
    ·have hd2:decide (y.key < x.key) = false:=decide_eq_false h2;have HK:=zh (show x.key = y.key by omega)
     have HJk:=zh (fun w1 (h1:Below wr.heap.size wr w1) => HJn.out w1 (zqaa HR.out.2 h1) _ _ _ _ x y (HXY.out.1.below h1) (HXY.out.2.below h1) HSx.out.1 HSx.out.2)
     unfold RJ14 at HJk;go_wp2_with fail;go_quiet (fail);have HWb:=zh (HD.out (mq + nq)).1;have x0:(wr.drewN (mq + nq)).cell? _ = _:=x0;have x1:(wr.drewN (mq + nq)).cell? _ = _:=x1;have x2:(wr.drewN (mq + nq)).cell? _ = _:=x2;have x3:(wr.drewN (mq + nq)).cell? _ = _:=x3;have y0:(wr.drewN (mq + nq)).cell? _ = _:=y0;have y1:(wr.drewN (mq + nq)).cell? _ = _:=y1;have y2:(wr.drewN (mq + nq)).cell? _ = _:=y2;have y3:(wr.drewN (mq + nq)).cell? _ = _:=y3;have hWs:wr.heap.size = (wr.drewN (mq + nq)).heap.size:=rfl;go_wp2_with fail;try rw [World.drewN_drewN]
     generalize hWW:wr.drewN (mq + nq) = W at *;have HJz:=zh (fun w1 (h1:Below W.heap.size W w1) => HJk.out w1 (zqaa HWb.out h1))
     have hal:=zqab W.drew (.cells #[.int .u64 0,.int .i64 0,.slice none 0 0,.slice none 0 0] 38);have a0:(W.drew.alloc (.cells #[.int .u64 0,.int .i64 0,.slice none 0 0,.slice none 0 0] 38)).cell? _ = _:=cell_later hal x0;have a1':(W.drew.alloc (.cells #[.int .u64 0,.int .i64 0,.slice none 0 0,.slice none 0 0] 38)).cell? _ = _:=cell_later hal x1;have a2:(W.drew.alloc (.cells #[.int .u64 0,.int .i64 0,.slice none 0 0,.slice none 0 0] 38)).cell? _ = _:=cell_later hal x2;have a3:(W.drew.alloc (.cells #[.int .u64 0,.int .i64 0,.slice none 0 0,.slice none 0 0] 38)).cell? _ = _:=cell_later hal x3;have b0:(W.drew.alloc (.cells #[.int .u64 0,.int .i64 0,.slice none 0 0,.slice none 0 0] 38)).cell? _ = _:=cell_later hal y0;have b1':(W.drew.alloc (.cells #[.int .u64 0,.int .i64 0,.slice none 0 0,.slice none 0 0] 38)).cell? _ = _:=cell_later hal y1;have b2:(W.drew.alloc (.cells #[.int .u64 0,.int .i64 0,.slice none 0 0,.slice none 0 0] 38)).cell? _ = _:=cell_later hal y2;have b3:(W.drew.alloc (.cells #[.int .u64 0,.int .i64 0,.slice none 0 0,.slice none 0 0] 38)).cell? _ = _:=cell_later hal y3;have c0:(W.alloc (.cells #[.int .u64 0,.int .i64 0,.slice none 0 0,.slice none 0 0] 38)).cell? _ = _:=cell_later (zqab W (.cells #[.int .u64 0,.int .i64 0,.slice none 0 0,.slice none 0 0] 38)) x0;have c1:(W.alloc (.cells #[.int .u64 0,.int .i64 0,.slice none 0 0,.slice none 0 0] 38)).cell? _ = _:=cell_later (zqab W (.cells #[.int .u64 0,.int .i64 0,.slice none 0 0,.slice none 0 0] 38)) x1;have c2:(W.alloc (.cells #[.int .u64 0,.int .i64 0,.slice none 0 0,.slice none 0 0] 38)).cell? _ = _:=cell_later (zqab W (.cells #[.int .u64 0,.int .i64 0,.slice none 0 0,.slice none 0 0] 38)) x2;have c3:(W.alloc (.cells #[.int .u64 0,.int .i64 0,.slice none 0 0,.slice none 0 0] 38)).cell? _ = _:=cell_later (zqab W (.cells #[.int .u64 0,.int .i64 0,.slice none 0 0,.slice none 0 0] 38)) x3;have d0:(W.alloc (.cells #[.int .u64 0,.int .i64 0,.slice none 0 0,.slice none 0 0] 38)).cell? _ = _:=cell_later (zqab W (.cells #[.int .u64 0,.int .i64 0,.slice none 0 0,.slice none 0 0] 38)) y0;have d1:(W.alloc (.cells #[.int .u64 0,.int .i64 0,.slice none 0 0,.slice none 0 0] 38)).cell? _ = _:=cell_later (zqab W (.cells #[.int .u64 0,.int .i64 0,.slice none 0 0,.slice none 0 0] 38)) y1;have d2:(W.alloc (.cells #[.int .u64 0,.int .i64 0,.slice none 0 0,.slice none 0 0] 38)).cell? _ = _:=cell_later (zqab W (.cells #[.int .u64 0,.int .i64 0,.slice none 0 0,.slice none 0 0] 38)) y2;have d3:(W.alloc (.cells #[.int .u64 0,.int .i64 0,.slice none 0 0,.slice none 0 0] 38)).cell? _ = _:=cell_later (zqab W (.cells #[.int .u64 0,.int .i64 0,.slice none 0 0,.slice none 0 0] 38)) y3;clear hal;go_cut [7,8] from 27 to 36 (fun v7 v8 wx => ∃ (M:Nat) (c:Ce) (p3 q3:Option Addr) (k3 l3:Nat),v7 = .pointer (some ⟨M,0,none⟩) ∧ v8 = .int .i64 (errJ x y) ∧ Hid (JAt W M c (.slice p3 c.is.length k3) (.slice q3 c.ns.length l3) wx ∧ (errJ x y = 0 → JC x y c) ∧ (errJ x y ≠ 0 → c = ce0)))
     case first =>
      go_region_law (first
       | (go_simp; go_at_call 55; refine (HJz.out _ (by (repeat' first | exact Below.refl _ _ | refine Below.drew ?_ | refine Below.alloc ?_ (by first | exact Nat.le_refl _ | (simp; done) | (simp; omega)) _); done)).mono ?_; rintro e w3 ⟨c,I3,N3,rfl,hco,hj1,hj2,hb3⟩; obtain ⟨⟨p3,k3,rfl⟩,q3,l3,rfl⟩:=hco.slices; (first | (have hbW:Below W.heap.size W w3:=zqaw hb3) | (obtain ⟨hMz,hbW⟩:=zqm1 (W:=W) (w2:=w3) (cs:=#[.int .u64 0,.int .i64 0,.slice none 0 0,.slice none 0 0]) (T:=38) hb3; have zf:=zqav hMz; obtain ⟨z0,z1,z2,z3⟩:=row4 hMz) | (obtain ⟨hMz,hbW⟩:=zqm2 (W:=W) (w2:=w3) (cs:=#[.int .u64 0,.int .i64 0,.slice none 0 0,.slice none 0 0]) (T:=38) hb3; have zf:=zqav hMz; obtain ⟨z0,z1,z2,z3⟩:=row4 hMz))))
      all_goals
       go_wp2_with fail;go_meet
       first
        | (have h1:=zxch hMz hbW hco (by first | exact Nat.le_refl _ | (simp; done) | (simp; omega)); exact ⟨_,c,p3,q3,k3,l3,rfl,rfl,zh ⟨h1,hj1,hj2⟩⟩)
        | (have h1:=zxcg hbW hco (by first | exact Nat.le_refl _ | (simp; done) | (simp; omega)); exact ⟨_,c,p3,q3,k3,l3,rfl,rfl,zh ⟨h1,hj1,hj2⟩⟩)
     case rest =>
      obtain ⟨M,c,p3,q3,k3,l3,rfl,rfl,hC⟩:=hcut;have HBc:=zh (zqaa HWb.out hC.out.1.1);have HB3:=zh (zqaa HR.out.2 HBc.out);have HR3:=zh (HR.out.1.below hsz HBc.out);have HCo:=zh hC.out.1.2.2.2;have hsz3:=HB3.out.size;obtain ⟨m0,m1,m2,m3⟩:=row4 hC.out.1.2.2.1;have HJs:=zh hC.out.2;clear x0 x1 x2 x3 y0 y1 y2 y3 a0 a1' a2 a3 b0 b1' b2 b3 c0 c1 c2 c3 d0 d1 d2 d3 HJz HJk hC hWs HXY
      by_cases hE:errJ x y = 0
      ·have hE':(((errJ x y:Nat):Int) != 0) = false:=by rw [hE]; rfl
       have hcj:c = joinC x y:=zqh6 HJs.out.1 HJs.out.2;have HM1:=zh (show G = preE (ps.map cellOf ++ [c]) (mergeC (a1.drop 1) (b1.drop 1)) from HM.out.trans (by rw [show mergeC a1 b1 = mergeC (x :: a1.drop 1) (y :: b1.drop 1) from congr (congrArg mergeC HHa.out) HHb.out,zxbg HK.out hE,zxat,hcj]))
       generalize ((errJ x y:Nat):Int) = EE at *;clear hE hcj;go_wp2_with (at_builtin; refine zqbd _ (by rfl) _ _ 28 rfl w.heap.size 38 i0 CZ 4 64 Tryz.underlying28 hi hz0 hz1 hz2 zqo5 (by decide) _ _ ps.length 1 (cellsC ps) (rowC (.slice p3 c.is.length k3,.slice q3 c.ns.length l3,c)) rfl rfl (zqaj HR3.out.o (zqab _ _)) (zqtu wc (.slice p3 c.is.length k3,.slice q3 c.ns.length l3,c)) rfl (zxal HCo.out.mem) (by unfold maxLen; omega) (by omega) (by have:=hsz3; simp; omega) ?_; intro v' w4 hown hgrow; have HR4:=zh (zxam HR3.out HB3.out hsz3 (zqmn HCo.out) hown hgrow); obtain ⟨pv',cv',rfl⟩:=zqae hown; clear hown hgrow)
       go_quiet (simp only [hopa,hopb]);go_wp2_with fail;exact ⟨⟨a1.drop 1,b1.drop 1,ps ++ [(.slice p3 c.is.length k3,.slice q3 c.ns.length l3,c)],⟨_,_,by rw [List.length_drop]⟩,⟨_,_,by rw [List.length_drop]⟩,by simp; omega,zh ⟨HTa.out,HTb.out⟩,zh ⟨HSa.out,HSb.out⟩,zh ⟨HR4.out.1.below HR4.out.2.size ((Drawn.refl w4).next nq).below,zqaa HR4.out.2 ((Drawn.refl w4).next nq).below⟩,zh (by rw [List.map_append]; exact HM1.out)⟩,by simp [lenV]; omega⟩
      ·have hE':(((errJ x y:Nat):Int) != 0) = true:=by simp; exact hE
       have hG:=HM.out.trans (by rw [show mergeC a1 b1 = mergeC (x :: a1.drop 1) (y :: b1.drop 1) from congr (congrArg mergeC HHa.out) HHb.out,zxbi HK.out hE])
       obtain rfl:G = (errJ x y,[]):=hG.trans (by unfold preE; rw [if_neg hE])
       clear hE hG;go_wp2_with fail;exact bodyPost_ret (v:=.tuple #[.slice none 0 0,.int .i64 ((errJ x y:Nat):Int)]) (by simp [results,Tryz.results25,go_sem]) rfl ⟨_,rfl,[],CsRow.nil _ _,rfl,HB3.out⟩
  ·have hend:a1.length = 0 ∨ b1.length = 0:=by omega
   obtain rfl:G = (0,ps.map cellOf ++ (a1 ++ b1)):=HM.out.trans (by rw [zxb8 hend]; rfl)
   obtain ⟨pas,ea,ma,na⟩:=HC.out.1.rows;obtain ⟨pbs,eb,mb,nb⟩:=HC.out.2.rows;have hla:pas.length = a1.length:=by rw [← ea]; simp
   have hlb:pbs.length = b1.length:=by rw [← eb]; simp
   have HP:=zh (show ∀ p ∈ pas ++ pbs,CeM w p.1 p.2.1 p.2.2 ∧ Sm p.2.2 from fun p hp => by
    rcases List.mem_append.1 hp with hp | hp
    ·exact ⟨ma p hp,HS.out.1 _ (by rw [← ea]; exact List.mem_map_of_mem hp)⟩
    ·exact ⟨mb p hp,HS.out.2 _ (by rw [← eb]; exact List.mem_map_of_mem hp)⟩)
   have HEq:=zh (show (pas ++ pbs).map cellOf = a1 ++ b1 by rw [List.map_append,ea,eb])
   have hpl:(pas ++ pbs).length = a1.length + b1.length:=by simp; omega
   have hsz:=HR.out.2.size;have HL0:=zh (zqab wr (.cells #[.slice pa a1.length ca,.slice pb b1.length cb] 28));have HRw:=zh (show RowsC (wr.alloc (.cells #[.slice pa a1.length ca,.slice pb b1.length cb] 28)) (.slice (some ⟨wr.heap.size,0,none⟩) 2 2) [pas,pbs] from by
    have h:=heap_alloc_new wr (.cells #[.slice pa a1.length ca,.slice pb b1.length cb] 28);refine ⟨wr.heap.size,rfl,by simp,fun k hk => ?_⟩
    rcases (show k = 0 ∨ k = 1 by have:k < 2:=hk; omega) with rfl | rfl
    ·exact ⟨_,(zxbu h).1,zqb0 (show NewsAt w (.slice pa a1.length ca) pas.length (cellsC pas) from na) (zqaa HR.out.2 HL0.out)⟩
    ·exact ⟨_,(zxbu h).2,zqb0 (show NewsAt w (.slice pb b1.length cb) pbs.length (cellsC pbs) from nb) (zqaa HR.out.2 HL0.out)⟩)
   have HCc:=zh (zxbn _ _ [pas,pbs] HRw.out (by simp; omega) (by simp) (fun q hq => by
    rcases List.mem_cons.1 hq with rfl | hq
    ·exact zxa1 fun p hp => (HP.out p (List.mem_append_left _ hp)).1
    ·obtain rfl:q = pbs:=by simpa using hq
     exact zxa1 fun p hp => (HP.out p (List.mem_append_right _ hp)).1))
   have hfl:[pas,pbs].flatten = pas ++ pbs:=by simp
   rw [hfl] at HCc;have HLn:=zh (show ps.length + (pas ++ pbs).length ≤ 1000 by omega)
   generalize hL:pas ++ pbs = L at *;have hLn:L.length ≤ 1000:=by have:=HLn.out; omega
   clear hpl;have HBl:=zh (zqaa HR.out.2 HL0.out);have HRl:=zh (HR.out.1.below hsz HL0.out);have HOl:=zh (zxcc HRl.out.o);have hsz2:=HBl.out.size;clear ea eb ma mb na nb hfl hla hlb HRw HC HS HM hL HL0 HR;have hcond:((a1.length:Int) = 0 ∧ (0:Int) ≤ b1.length) ∨ ((0:Int) < a1.length ∧ (b1.length:Int) = 0):=by omega
   rcases hcond with hc | hc
   all_goals
    obtain ⟨hc1,hc2⟩:=hc;go_wp2_with fail;refine (HCc.out).mono ?_; rintro e w3 ⟨⟨v3,rfl,ho3⟩,hb3⟩;have HB3:=zh (zqaa HBl.out hb3);have HR3:=zh (HRl.out.below hsz2 hb3);have HAp:=zh (zxcm (u:=.slice pl ps.length cl) ho3 HOl.out);have HO3:=zh (zqak ho3 hsz2);obtain ⟨pc,cc,rfl⟩:=zqae ho3;clear ho3 hb3 HCc HBl HRl HOl hc1 hc2 hsz hsz2;go_wp2_with fail;go_loopw [91,6] (fun iv vl wr2 => ∃ (k:Nat) (ps2:List (Value × Value × Ce)),k ≤ L.length ∧ iv = .int .i64 k ∧ Hid (ps2.length = ps.length + k) ∧ Hid (ps2.map cellOf = ps.map cellOf ++ (L.take k).map cellOf) ∧ Hid (CsRow w.heap.size wr2 vl ps2 ∧ Below w.heap.size w wr2) ∧ Hid (Ap wr2 vl (.slice pc L.length cc)) ∧ Hid (wr2.ownsRow w.heap.size 38 4 (.slice pc L.length cc) L.length (cellsC L))) (fun iv _ _ => L.length - (intOf iv).toNat)
    case atStart => exact ⟨0,ps,Nat.zero_le _,rfl,zh rfl,zh (by simp),zh ⟨HR3.out,HB3.out⟩,HAp,HO3⟩
    case round =>
     clear HR3 HB3 HAp HO3;obtain ⟨k,ps2,hk,rfl,hl2,HM2,HR2,HA2,HO2⟩:=hrel;obtain ⟨pd,cd,rfl⟩:=HR2.out.1.any;have hp2:ps2.length ≤ 1000:=by have:=hl2.out; have:=HLn.out; omega
     by_cases hlt:k < L.length
     ·have hlt':(k:Int) < (L.length:Int):=by omega
      obtain ⟨g,rfl⟩:∃ g,pc = some ⟨g,0,none⟩:=by
       rcases HO2.out.2 with ⟨e,h0⟩ | ⟨g,cap,cur,e,-⟩
       ·omega
       ·injection e with e; exact ⟨g,e⟩
      have hcell:=fun j (hj:j < 4) => (World.ownsRow.cellAt HO2.out (k * 4 + j) (by omega)).trans (zqcn L k j hlt hj)
      obtain ⟨q,hq⟩:∃ q,L[k] = q:=⟨_,rfl⟩
      have HPq:=zh (HP.out q (by rw [← hq]; exact List.getElem_mem hlt))
      have HTk:=zh (show L.take (k + 1) = L.take k ++ [q] by rw [← hq,List.take_add_one,List.getElem?_eq_getElem hlt]; rfl)
      obtain ⟨I,N,c⟩:=q;have z0:wr.cell? ⟨g,k * 4,none⟩ = some (.int .u64 c.key):=by have:=hcell 0 (by decide); rw [hq] at this; exact this
      have z1:wr.cell? ⟨g,k * 4 + 1,none⟩ = some (.int .i64 c.cnt):=by have:=hcell 1 (by decide); rw [hq] at this; exact this
      have z2:wr.cell? ⟨g,k * 4 + 2,none⟩ = some I:=by have:=hcell 2 (by decide); rw [hq] at this; exact this
      have z3:wr.cell? ⟨g,k * 4 + 3,none⟩ = some N:=by have:=hcell 3 (by decide); rw [hq] at this; exact this
      clear hcell hq;obtain ⟨⟨qi,ki,e1⟩,qn,kn,e2⟩:=HPq.out.1.slices;simp only at e1 e2;subst e1 e2;have HOc:=zh (fun w1 (h1:Below w.heap.size w w1) => HOw.out w1 _ _ c (HPq.out.1.below h1) HPq.out.2)
      have hsz2:=HR2.out.2.size;have HX:=zh (zqab wr (.cells #[.int .u64 c.key,.int .i64 c.cnt,.slice qi c.is.length ki,.slice qn c.ns.length kn] 38));obtain ⟨m0,m1,m2,m3⟩:=row4 (heap_alloc_new wr (.cells #[.int .u64 c.key,.int .i64 c.cnt,.slice qi c.is.length ki,.slice qn c.ns.length kn] 38));go_upto_region 19 with fail;generalize wr.alloc (.cells #[.int .u64 c.key,.int .i64 c.cnt,.slice qi c.is.length ki,.slice qn c.ns.length kn] 38) = W4 at *;have HOk:=zh (HOc.out W4 (zqaa HR2.out.2 HX.out));clear z0 z1 z2 z3 HOc;go_wp2_with fail;refine HOk.out.mono ?_; rintro e w5 ⟨I3,N3,rfl,hco,hb5⟩;have hbb:=zqaa HX.out hb5;have HB5:=zh (zqaa HR2.out.2 hbb);have HR5:=zh (HR2.out.1.below hsz2 hbb);have HA5:=zh (HA2.out.size hbb.size);have HO5:=zh (zqaj HO2.out hbb);have HCo:=zh hco;obtain ⟨⟨p3,k3,rfl⟩,q3,l3,rfl⟩:=hco.slices;have hsz5:=HB5.out.size;clear hco hb5 hbb HOk HX HR2 HA2 HO2 m0 m1 m2 m3;go_wp2_with (at_builtin; refine zxap _ (by rfl) _ _ 28 rfl w.heap.size 38 i0 CZ 4 64 Tryz.underlying28 hi hz0 hz1 hz2 zqo5 (by decide) _ _ ps2.length 1 (cellsC ps2) (rowC (.slice p3 c.is.length k3,.slice q3 c.ns.length l3,c)) rfl rfl (zqaj HR5.out.o (zqab _ _)) (zqtu w5 (.slice p3 c.is.length k3,.slice q3 c.ns.length l3,c)) rfl (zxal HCo.out.mem) (by unfold maxLen; omega) (by omega) (by have:=hsz5; simp; omega) ?_; intro v' w6 hown hgrow hblk; have HR6:=zh (zxam HR5.out HB5.out hsz5 (zqmn HCo.out) hown hgrow); have HA6:=zh (((HA5.out.size (zqab w5 (.cells #[.int .u64 c.key,.int .i64 c.cnt,.slice p3 c.is.length k3,.slice q3 c.ns.length l3] 38)).size)).app hblk hgrow.size); have HO6:=zh (zxcn (zqaj HO5.out (zqab w5 (.cells #[.int .u64 c.key,.int .i64 c.cnt,.slice p3 c.is.length k3,.slice q3 c.ns.length l3] 38))) hgrow fun g hg => (HA5.out g hg).2); obtain ⟨pv',cv',rfl⟩:=zqae hown; clear hown hgrow hblk)
      go_roundw
      case rel => exact ⟨k + 1,ps2 ++ [(.slice p3 c.is.length k3,.slice q3 c.ns.length l3,c)],by omega,by go_num,zh (by have:=hl2.out; simp; omega),zh (by rw [List.map_append,HM2.out,HTk.out,List.map_append,List.append_assoc]; rfl),zh HR6.out,HA6,HO6⟩
      case measure => simp [intOf]; omega
     ·have e:k = L.length:=by omega
      subst e;have hlt':¬ (L.length:Int) < (L.length:Int):=by omega
      go_wp2_with fail;exact bodyPost_ret (v:=.tuple #[.slice pd ps2.length cd,.int .i64 0]) (by simp [results,Tryz.results25,go_sem]) rfl ⟨_,rfl,ps2,HR2.out.1,by rw [HM2.out,List.take_length,HEq.out],HR2.out.2⟩
theorem zxb2 {S:Sc} {a b:Int} {c:Ce} (h:rightC S a c = true) (hs:subM b a = true):downL S a b c.key = downG (dz S.ds) (bitG a) (bitG b) S.ds.length c.key:=by
 unfold rightC validC at h;simp only [Bool.and_eq_true,decide_eq_true_eq] at h;have h1:downE S a b c.key = 0:=by
  unfold downE numE;rw [if_pos h.1.1,if_pos h.1.2,if_pos rfl,if_pos hs,if_neg (by omega)]
 unfold downL;rw [if_pos h1]
theorem JW.right {x y z:Wh} (h:JW x y z) (hx:rightW x = true) (hy:rightW y = true) (hl:z.sq.length ≤ 7):rightW z = true:=by
 unfold rightW at *;rw [zqlx.2 h.ty];simp only [Bool.and_eq_true,decide_eq_true_eq,Bool.and_true] at *;have h1:=h.sum;have h2:=h.abs;have h3:=h.mn;have h4:=h.mx;omega
theorem zxby {a b c d:Nat} (h1:lessB b a = false) (h2:lessB d c = false):lessB (if lessB b d then d else b) (if lessB c a then c else a) = false:=by
 unfold lessB at *;simp only [decide_eq_true_eq,decide_eq_false_iff_not] at *
 split <;> split <;> omega
theorem JR.right {x y z:Re} (h:JR x y z) (wx:ReW x) (wy:ReW y) (hx:rightR x = true) (hy:rightR y = true):rightR z = true:=by
 have hg:errN z.sum = 0:=zxa3 (Good.join (zqgs wx.sum h.e1).1 (zqgs wy.sum h.e2).1 h.ft) h.sum;unfold rightR at *;simp only [Bool.and_eq_true,decide_eq_true_eq,Bool.not_eq_true'] at *;refine ⟨hg,?_⟩;rw [h.mn,h.mx];exact zxby hx.2 hy.2
theorem JC.right {S:Sc} {m:Int} {a b c:Ce} (h:JC a b c) (he:errJ a b = 0) (wa:CeW a) (wb:CeW b) (ha:rightC S m a = true) (hb:rightC S m b = true) (hl:∀ k,k < c.is.length → (wg c.is k).sq.length ≤ 7):rightC S m c = true:=by
 obtain ⟨q1,q2,q3,-⟩:=zqfp he;unfold rightC validC at *;simp only [Bool.and_eq_true,decide_eq_true_eq] at *;obtain ⟨ha0,⟨⟨⟨⟨ha1,ha2⟩,ha3⟩,ha4⟩,ha5⟩,ha6⟩:=ha;obtain ⟨hb0,⟨⟨⟨⟨hb1,hb2⟩,hb3⟩,hb4⟩,hb5⟩,hb6⟩:=hb;refine ⟨ha0,⟨⟨⟨⟨by rw [h.key]; exact ha1,by rw [h.cnt]; omega⟩,by rw [h.li]; exact ha3⟩,by rw [h.ln]; exact ha4⟩,zqmh fun k hk => ?_⟩,zqmg fun k hk => ?_⟩
 ·have hk2:k < a.is.length:=by rw [← h.li]; exact hk
  exact (h.is k hk2).right (List.all_eq_true.1 ha5 k (by simpa using hk2)) (List.all_eq_true.1 hb5 k (by simpa using (by omega:k < b.is.length))) (hl k hk)
 ·have hk2:k < a.ns.length:=by rw [← h.ln]; exact hk
  exact (h.ns k hk2).right (wa.rg hk2) (wb.rg (by omega)) (List.all_eq_true.1 ha6 k (by simpa using hk2)) (List.all_eq_true.1 hb6 k (by simpa using (by omega:k < b.ns.length)))
theorem zxaq {l:List Ce} {c:Ce} (hr:risingC l) (e:(withL l c).1 = 0):risingC (withL l c).2:=by
 cases hl:lookC l c.key with
 | none => exact (zqx1 hr (zqg3 hl)).2.2.1
 | some x =>
  obtain ⟨hx,hk⟩:=zqde hl;obtain ⟨i1,i2⟩:=zqir hr hx hk;exact (i2 (i1.symm.trans e)).2.1
def LisP (w:World) (R:Nat × List Ce) (e:Ending) (w':World):Prop:=∃ a n c,e = .returned (.tuple #[.slice a n c,.int .i64 R.1]) ∧ n = R.2.length ∧ Cells w' (.slice a n c) R.2 ∧ Below w.heap.size w w'
theorem RollP.lis {w w':World} {R:Nat × List Ce} {e:Ending} (h:RollP w R e w'):LisP w R e w':=by
 obtain ⟨r,ps,rfl,hr,hp,hb⟩:=h;obtain ⟨a,c,rfl⟩:=hr.any;have hc:=hr.cells;rw [hp] at hc;exact ⟨a,_,c,rfl,by rw [← hp,List.length_map],hc,hb⟩
theorem Facts.len {w:World} {v:Value} {l:List Fa} (h:Facts w v l):∃ a c,v = .slice a l.length c:=by
 obtain ⟨a,c,rfl,-⟩:=h;exact ⟨a,c,rfl⟩
theorem zxas {x z:Ce} {r:Nat × List Ce} (h:z ∈ (consE x r).2):z = x ∨ z ∈ r.2:=by
 unfold consE at h
 by_cases e:r.1 = 0
 ·rw [if_pos e] at h;exact List.mem_cons.1 h
 ·rw [if_neg e] at h; cases h
theorem zxaj:∀ (a b:List Ce),(∀ c ∈ a,Sv 1 c) → (∀ c ∈ b,Sv 1 c) → ∀ x ∈ (mergeC a b).2,Sv 2 x
 | [],b,_,hb => fun x hx => by
  unfold mergeC at hx;exact (hb x hx).mono (by decide)
 | x :: a,[],ha,_ => fun z hz => by
  unfold mergeC at hz;exact (ha z hz).mono (by decide)
 | x :: a,y :: b,ha,hb => fun z hz => by
  rw [mergeC] at hz;have hx:=ha x (List.mem_cons_self ..);have hy:=hb y (List.mem_cons_self ..);have ha':∀ c ∈ a,Sv 1 c:=fun c hc => ha c (List.mem_cons_of_mem _ hc)
  have hb':∀ c ∈ b,Sv 1 c:=fun c hc => hb c (List.mem_cons_of_mem _ hc)
  by_cases h1:x.key < y.key
  ·rw [if_pos h1] at hz;rcases zxas hz with rfl | hz
   ·exact hx.mono (by decide)
   ·exact zxaj a (y :: b) ha' hb z hz
  ·rw [if_neg h1] at hz
   by_cases h2:y.key < x.key
   ·rw [if_pos h2] at hz;rcases zxas hz with rfl | hz
    ·exact hy.mono (by decide)
    ·exact zxaj (x :: a) b ha hb' z hz
   ·rw [if_neg h2] at hz
    by_cases h3:errJ x y = 0
    ·rw [if_pos h3] at hz;rcases zxas hz with rfl | hz
     ·exact zqzm hx hy (by decide) h3
     ·exact zxaj a b ha' hb' z hz
    ·rw [if_neg h3] at hz; cases hz
termination_by a b => a.length + b.length
theorem zxa9 {a b:List Ce} (ha:∀ c ∈ a,Sv 1 c) (hb:∀ c ∈ b,Sv 1 c):∀ x ∈ (mergeE a b).2,Sv 2 x:=by
 unfold mergeE
 split
 ·exact zxaj a b ha hb
 ·exact fun x hx => nomatch hx
theorem MergeP.lis {w w':World} {a b:List Ce} {e:Ending} (h:MergeP w a b e w'):LisP w (mergeE a b) e w':=by
 obtain ⟨r,rfl,ps,hr,hp,hb⟩:=h;obtain ⟨x,c,rfl⟩:=hr.any;have hc:=hr.cells;rw [hp] at hc;exact ⟨x,_,c,rfl,by rw [← hp,List.length_map],hc,hb⟩
theorem zxa8 {l:List Ce} (h:lightL l = true) (hw:LsW l):l.length ≤ 60 ∧ ∀ c ∈ l,Sv 1 c:=by
 obtain ⟨h1,h2⟩:=zqfv.1 h;refine ⟨h1,fun c hc => ?_⟩
 obtain ⟨i,hi,rfl⟩:=List.getElem_of_mem hc;have:=h2 i hi;rw [zqat hi] at this;exact zqwv this (hw _ hc)
theorem zxcl {b a:Int} (b0:0 ≤ b) (b1:b ≤ 4294967295) (a0:0 ≤ a) (h:subM b a = true):b ≤ a:=by
 have h1:=(zqg8 b0 b1).1 h;have e:b.toNat &&& a.toNat = b.toNat:=Nat.eq_of_testBit_eq fun k => by
  rw [Nat.testBit_and,← zqge b0,← zqge a0]
  by_cases q:bitG b k = true
  ·rw [q,h1 k q]; rfl
  ·rw [eq_false_of_ne_true q]; rfl
 have h2:b.toNat &&& a.toNat ≤ a.toNat:=Nat.and_le_right;omega
theorem zxcd {S:Sc} {a b:Int} {c:Ce} (h:rightC S a c = true) (hs:subM b a = true) (a0:0 ≤ a) (b0:0 ≤ b) (b1:b ≤ 4294967295):rightC S b (rkC S a b c) = true:=by
 have hd:=zxb2 h hs;unfold rightC validC at h ⊢;simp only [Bool.and_eq_true,decide_eq_true_eq] at h ⊢;obtain ⟨⟨h0,h00⟩,⟨⟨⟨⟨h1,h2⟩,h3⟩,h4⟩,h5⟩,h6⟩:=h;have hz:=(zqeb h0).2;have hr:=zqqk (p:=bitG a) (p':=bitG b) (zqdg hz) (fun j _ => (zqg8 b0 b1).1 hs j) c.key
 have hle:=zxcl b0 b1 a0 hs;refine ⟨⟨h0,by omega⟩,⟨⟨⟨⟨?_,h2⟩,h3⟩,h4⟩,h5⟩,h6⟩
 show downL S a b c.key < keysL S.ds b S.ds.length
 rw [hd,zqh8];exact hr.2
def Qv (S:Sc) (m:Int) (n:Nat) (x:Ce):Prop:=Sv n x ∧ (∀ k,k < x.is.length → Tidy (wg x.is k).sq) ∧ ((∀ k,k < x.is.length → (wg x.is k).sq.length ≤ 7) → rightC S m x = true)
theorem Qv.mono {S:Sc} {m:Int} {n k:Nat} {c:Ce} (h:Qv S m n c) (hk:n ≤ k):Qv S m k c:=⟨h.1.mono hk,h.2⟩
theorem zxa2 {S:Sc} {m:Int} {c:Ce} (h:rightC S m c = true):∀ k,k < c.is.length → Tidy (wg c.is k).sq:=fun k hk => by
 unfold rightC validC at h;simp only [Bool.and_eq_true,decide_eq_true_eq] at h;obtain ⟨-,⟨-,h5⟩,-⟩:=h;have h1:=List.all_eq_true.1 h5 k (by simpa using hk)
 unfold rightW at h1;simp only [Bool.and_eq_true,decide_eq_true_eq] at h1;exact zqlx.1 h1.2
theorem zxbj {S:Sc} {m:Int} {c:Ce} (h:rightC S m c = true) (hs:Sv 1 c):Qv S m 1 c:=⟨hs,zxa2 h,fun _ => h⟩
theorem zxci {S:Sc} {m:Int} {n:Nat} {a b:Ce} (ha:Qv S m n a) (hb:Sv 1 b) (hr:rightC S m b = true) (hn:n ≤ 1000) (e:errJ a b = 0):Qv S m (n + 1) (joinC a b):=by
 have hj:=zqk6 ha.1.1 hb.1 e;obtain ⟨q1,q2,q3,-⟩:=zqfp e;refine ⟨zqzm ha.1 hb hn e,fun k hk => (hj.is k (by rw [← hj.li]; exact hk)).ty,fun hl => ?_⟩
 refine hj.right e ha.1.1 hb.1 (ha.2.2 fun k hk => ?_) hr hl
 have hk2:k < (joinC a b).is.length:=by rw [hj.li]; exact hk
 have h1:=hj.is k hk;have h2:=hl k hk2;have h3:=(zqas h1.wd).2;have h4:=(zqas (hb.1.wg (show k < b.is.length by omega)).sq).1
 refine (ha.2.1 k hk).wlen (ha.1.1.wg hk).sq (n:=7) ?_;have h5:=Nat.pow_le_pow_right (n:=4294967296) (by decide) h2
 have e1:((4294967296 ^ (wg (joinC a b).is k).sq.length:Nat):Int) = 4294967296 ^ (wg (joinC a b).is k).sq.length:=by rw [Int.natCast_pow]; rfl
 have e2:((4294967296 ^ 7:Nat):Int) = 4294967296 ^ 7:=by rw [Int.natCast_pow]; rfl
 have h6:(4294967296:Int) ^ (wg (joinC a b).is k).sq.length ≤ 4294967296 ^ 7:=by rw [← e1,← e2]; exact Int.ofNat_le.2 h5
 have h7:=h1.sq;refine Int.lt_of_lt_of_le ?_ h6;refine Int.lt_of_le_of_lt ?_ h3;omega
theorem zxbw {S:Sc} {m:Int}:∀ {l:List Ce} {c:Ce} {n:Nat},(∀ x ∈ l,Qv S m n x) → Sv 1 c → rightC S m c = true → 1 ≤ n → n ≤ 1000 → ∀ x ∈ (withL l c).2,Qv S m (n + 1) x
 | [],c,n,_,hc,hr,h1,_,x,hx => by
  obtain rfl:x = c:=by simpa [withL] using hx
  exact (zxbj hr hc).mono (by omega)
 | y :: l,c,n,hl,hc,hr,h1,hn,x,hx => by
  have hy:=hl y (List.mem_cons_self ..);have ih:=fun x => zxbw (l:=l) (c:=c) (n:=n) (fun z hz => hl z (List.mem_cons_of_mem _ hz)) hc hr h1 hn x
  unfold withL at hx
  by_cases q:y.key < c.key
  ·rw [if_pos q] at hx
   by_cases e:(withL l c).1 = 0
   ·rw [if_pos e] at hx;rcases List.mem_cons.1 hx with rfl | hx
    ·exact hy.mono (by omega)
    ·exact ih x hx
   ·rw [if_neg e] at hx; cases hx
  ·rw [if_neg q] at hx
   by_cases q2:y.key = c.key
   ·rw [if_pos q2] at hx
    by_cases e:errJ y c = 0
    ·rw [if_pos e] at hx;rcases List.mem_cons.1 hx with rfl | hx
     ·exact zxci hy hc hr hn e
     ·exact (hl x (List.mem_cons_of_mem _ hx)).mono (by omega)
    ·rw [if_neg e] at hx; cases hx
   ·rw [if_neg q2] at hx;rcases List.mem_cons.1 hx with rfl | hx
    ·exact (zxbj hr hc).mono (by omega)
    ·exact (hl x hx).mono (by omega)
theorem zxbr {S:Sc} {m:Int}:∀ (l acc:List Ce) (n:Nat),(∀ c ∈ l,Sv 1 c ∧ rightC S m c = true) → (∀ x ∈ acc,Qv S m n x) → 1 ≤ n → n + l.length ≤ 1000 → ∀ x ∈ (foldC acc l).2,Qv S m (n + l.length) x
 | [],acc,n,_,ha,_,_,x,hx => (ha x hx).mono (by simp)
 | c :: l,acc,n,hf,ha,h1,hn,x,hx => by
  simp only [List.length_cons] at hn ⊢;unfold foldC at hx
  by_cases hw:(withL acc c).1 = 0
  ·rw [if_pos hw] at hx;have hc:=hf c (List.mem_cons_self ..);exact (zxbr l _ (n + 1) (fun g hg => hf g (List.mem_cons_of_mem _ hg)) (zxbw ha hc.1 hc.2 h1 (by omega)) (by omega) (by omega) x hx).mono (by omega)
  ·rw [if_neg hw] at hx; cases hx
theorem zxa6:∀ (l acc:List Ce),¬ (foldC acc l).1 = 0 → (foldC acc l).2 = []
 | [],acc,h => absurd rfl h
 | c :: l,acc,h => by
  unfold foldC at h ⊢
  by_cases h1:(withL acc c).1 = 0
  ·rw [if_pos h1] at h ⊢;exact zxa6 l _ h
  ·rw [if_neg h1]
theorem zxca {S:Sc} {a b:Int} {l:List Ce} (h:¬ (rollE S a b l).1 = 0):(rollE S a b l).2 = []:=by
 unfold rollE at h ⊢
 by_cases h1:rightL S a l = true
 ·rw [if_pos h1] at h ⊢
  by_cases h2:subM b a = true
  ·rw [if_pos h2] at h ⊢;exact zxa6 _ _ h
  ·rw [if_neg h2]
 ·rw [if_neg h1]
theorem zxad {S:Sc} {a b:Int} {l:List Ce} (h:(rollE S a b l).1 = 0):rightL S a l = true ∧ subM b a = true ∧ rollE S a b l = foldC [] (l.map (rkC S a b)):=by
 unfold rollE at h ⊢
 by_cases h1:rightL S a l = true
 ·rw [if_pos h1] at h ⊢
  by_cases h2:subM b a = true
  ·rw [if_pos h2] at h ⊢;exact ⟨h1,h2,rfl⟩
  ·rw [if_neg h2] at h; cases h
 ·rw [if_neg h1] at h; cases h
theorem zxah {S:Sc} {a b:Int} {l:List Ce} (hs:∀ c ∈ l,Sv 1 c) (hl:l.length ≤ 900) (a0:0 ≤ a) (b0:0 ≤ b) (b1:b ≤ 4294967295):∀ x ∈ (rollE S a b l).2,Qv S b 1000 x:=by
 by_cases h:(rollE S a b l).1 = 0
 ·obtain ⟨h1,h2,h3⟩:=zxad h;rw [h3];intro x hx;refine (zxbr _ [] 1 (fun c hc => ?_) (fun x hx => nomatch hx) (by omega) (by rw [List.length_map]; omega) x hx).mono (by rw [List.length_map]; omega)
  obtain ⟨c,hc2,rfl⟩:=List.mem_map.1 hc;obtain ⟨i,hi,rfl⟩:=List.getElem_of_mem hc2;refine ⟨(hs _ hc2).key _ (zqv2 b0 b1),?_⟩;have h4:=(zqfz.1 h1).2.2 i hi;rw [zqat hi] at h4;exact zxcd h4 h2 a0 b0 b1
 ·rw [zxca h];exact fun x hx => nomatch hx
theorem zxck {S:Sc} {a b:Int} {l:List Ce} (hs:∀ c ∈ l,Sv 1 c) (hl:l.length ≤ 900) (a0:0 ≤ a) (b0:0 ≤ b) (b1:b ≤ 4294967295):LsW (rollE S a b l).2:=fun c hc => (zxah hs hl a0 b0 b1 c hc).1.1
end Go.Proofs.YtmnbljijnbhghaaGreatDoor
