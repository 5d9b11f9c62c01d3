/- Contracts that the law leans on: Celp Celv Cema. -/
import Derived.BigQuiet
import Derived.Deep.CutBlock
import Derived.Deep.AppendLies
import Derived.Deep.RegionHeld3
import Derived.Deep.QuietTactic
import Derived.Lib.ItoaNum
import Derived.OwnWalk
import Derived.Deep.RegionLawGrows
import Derived.Laws.FloatArith
import Derived.WalkLawsBesides
import Derived.Laws.Externs
import Derived.Laws.BitsAllLaws
import Derived.Lib.Hide
import Derived.Shelf.Spec.TrailingZeros
import Derived.Laws.Bits64b
import Derived.Lib.BitFns
import Derived.Lib.Small
import Derived.Lib.Strings
import Derived.Lib.Slices
import Derived.Lib.Walk
import Derived.WalkKit
import Derived.WalkSpells
import Derived.WalkSmall
import Derived.Laws.Bits64
import Derived.Deep.Draws
import Derived.Deep.DeepCutAuto
import Derived.Laws.BytesArg
import Derived.Deep.LoopGhost
import Derived.Deep.RegionLaw
import Derived.Outline
import Derived.Deep.RegionWith
import Derived.RegionTactic
import Derived.ChangeAlike
import Derived.Laws.IdiomStrings
import Derived.ProofKit
import Derived.LaidMore
import Derived.OpenShut
import Derived.Stop.Joined
import Derived.Lib.LaidTab
import Derived.ChangeSlices
import Derived.Deep.RegionHeld
import Derived.Deep.DrawnRows
import Derived.Lib.AppendZeros
import Derived.Maps.OwnSet
import Derived.Below
import Derived.SliceStrings
import Derived.Deep.CutRange
import Derived.Deep.Slices
import Derived.Deep.Fields
import Derived.ChangeSame
import Derived.Lib.SmallJoins
import Derived.Lib.Bytealg
import Derived.Lib.ConvBytes
import Derived.Laws.CopyRow
import Derived.Laws.IdiomCopy
import Derived.Laws.OwnMore
import Derived.Laws.MakeOwn
import Derived.Maps.Ext
import Derived.Maps.RangeWalk
import Derived.Test.YtmnbljijnbhghaaGreatDoorProg
import Derived.Test.YtmnbljijnbhghaaGreatDoorRows
import Derived.Test.YtmnbljijnbhghaaGreatDoorPm01
import Derived.Test.YtmnbljijnbhghaaGreatDoorPt01
import Derived.Test.YtmnbljijnbhghaaGreatDoorPt02
import Derived.Test.YtmnbljijnbhghaaGreatDoorPt03
import Derived.Test.YtmnbljijnbhghaaGreatDoorPt04
import Derived.Test.YtmnbljijnbhghaaGreatDoorPt05
import Derived.Test.YtmnbljijnbhghaaGreatDoorPt06
import Derived.Test.YtmnbljijnbhghaaGreatDoorPt07
import Derived.Test.YtmnbljijnbhghaaGreatDoorPt08
import Derived.Test.YtmnbljijnbhghaaGreatDoorPt09
import Derived.Test.YtmnbljijnbhghaaGreatDoorPt10
import Derived.Test.YtmnbljijnbhghaaGreatDoorPt11
import Derived.Test.YtmnbljijnbhghaaGreatDoorPt12
import Derived.Test.YtmnbljijnbhghaaGreatDoorPt13
import Derived.Test.YtmnbljijnbhghaaGreatDoorPt14
import Derived.Test.YtmnbljijnbhghaaGreatDoorPt15
import Derived.Test.YtmnbljijnbhghaaGreatDoorPt16
import Derived.Test.YtmnbljijnbhghaaGreatDoorPt17
import Derived.Test.YtmnbljijnbhghaaGreatDoorPt18
import Derived.Test.YtmnbljijnbhghaaGreatDoorPt19
import Derived.Test.YtmnbljijnbhghaaGreatDoorPt20
import Derived.Test.YtmnbljijnbhghaaGreatDoorPt21
import Derived.Test.YtmnbljijnbhghaaGreatDoorPt22
import Derived.Test.YtmnbljijnbhghaaGreatDoorPt23
import Derived.Test.YtmnbljijnbhghaaGreatDoorPt24
import Derived.Test.YtmnbljijnbhghaaGreatDoorPt25
import Derived.Test.YtmnbljijnbhghaaGreatDoorPt26
import Derived.Test.YtmnbljijnbhghaaGreatDoorPt27
import Derived.Test.YtmnbljijnbhghaaGreatDoorPt28
import Derived.Test.YtmnbljijnbhghaaGreatDoorPt29
import Derived.Test.YtmnbljijnbhghaaGreatDoorPt30
import Derived.Test.YtmnbljijnbhghaaGreatDoorPt33
namespace Go.Proofs.YtmnbljijnbhghaaGreatDoor
set_option maxRecDepth 100000
open Go.RowKit
set_option linter.unusedVariables false
def lenV:Value → Nat
 | .slice _ n _ => n
 | _ => 0
theorem size4:∃ i,Tryz.prog.info? 38 = some i ∧ i.size = 4:=by
 obtain ⟨i0,hi,hz0,hz1,hz2⟩:=info_parts Tryz.infoCell;exact ⟨i0,hi,hz1⟩
theorem zxar {w:World} {a:Option Addr} {cap l k:Nat} (hk:k ≤ l) (hs:∃ i,Tryz.prog.info? 38 = some i ∧ i.size = 4):(Instr.slice 28 (.slice a l cap) (some (.int .i64 k)) none none).run Tryz.prog w = .ok (.slice (if cap = k then a else a.map (·.add (k * 4))) (l - k) (cap - k)) w:=by
 obtain ⟨i,hi,hs⟩:=hs;simp [Instr.slice,run_underlying Tryz.underlying28,Instr.sliceBounds,Instr.sliceBound,asIntOf,sizeOf,typeInfo,hi,hs,hk,go_sem]
theorem zxaz {w:World} {a:Option Addr} {cap:Nat} {l:List Ce} (h:Cells w (.slice a l.length cap) l) (hl:1 ≤ l.length) :
  ∃ u c,(∀ w',(Instr.slice 28 (.slice a l.length cap) (some (.int .i64 1)) none none).run Tryz.prog w' = .ok (.slice u (l.length - 1) c) w') ∧ Cells w (.slice u (l.length - 1) c) (l.drop 1):=by
 refine ⟨(if cap = 1 then a else a.map (·.add (1 * 4))),cap - 1,fun w' => zxar (k:=1) hl size4,?_⟩
 obtain ⟨a',cap',e,h1,h2,h3⟩:=h;injection e with e1 e2 e3;subst e1 e3;have hd:(l.drop 1).length = l.length - 1:=by simp
 refine ⟨_,_,by rw [hd],by rw [hd]; omega,by rw [hd]; omega,?_⟩
 by_cases h0:l.length = 1
 ·exact .inl (List.length_eq_zero_iff.1 (by rw [hd]; omega))
 ·rcases h3 with rfl | ⟨b,off,rfl,hlt,hc⟩
  ·simp at hl
  ·rw [if_neg (by omega)]
   refine .inr ⟨b,off + 1 * 4,by simp [Addr.add],hlt,fun i hi => ?_⟩
   rw [hd] at hi;obtain ⟨I,N,hq⟩:=hc (i + 1) (by omega)
   have e:cg (l.drop 1) i = cg l (i + 1):=by
    unfold cg;rw [List.getD_eq_getElem?_getD,List.getD_eq_getElem?_getD,List.getElem?_drop,Nat.add_comm]
   rw [e,show off + 1 * 4 + i * 4 = off + (i + 1) * 4 by omega]
   exact ⟨I,N,hq⟩
def preE (acc:List Ce) (r:Nat × List Ce):Nat × List Ce:=if r.1 = 0 then (0,acc ++ r.2) else (r.1,[])
theorem pre_nil {r:Nat × List Ce} (h:r.1 ≠ 0 → r.2 = []):preE [] r = r:=by
 unfold preE
 by_cases e:r.1 = 0
 ·rw [if_pos e]; exact Prod.ext e.symm rfl
 ·rw [if_neg e]; exact Prod.ext rfl (h e).symm
theorem zxaj {acc:List Ce} {x:Ce} {r:Nat × List Ce}:preE acc (consE x r) = preE (acc ++ [x]) r:=by
 unfold preE consE
 by_cases e:r.1 = 0
 ·rw [if_pos e,if_pos rfl,if_pos e]; simp
 ·rw [if_neg e,if_neg e,if_neg e]
theorem zxa8:∀ (a b:List Ce),(mergeC a b).1 ≠ 0 → (mergeC a b).2 = []
 | [],b,h => by unfold mergeC at h; exact absurd rfl h
 | x :: a,[],h => by unfold mergeC at h; exact absurd rfl h
 | x :: a,y :: b,h => by
  have hc:∀ z r,(consE z r).1 ≠ 0 → (consE z r).2 = []:=fun z r h => by
   unfold consE at h ⊢
   by_cases e:r.1 = 0
   ·rw [if_pos e] at h; exact absurd rfl h
   ·rw [if_neg e]
  unfold mergeC at h ⊢
  by_cases h1:x.key < y.key
  ·rw [if_pos h1] at h ⊢; exact hc _ _ h
  ·rw [if_neg h1] at h ⊢
   by_cases h2:y.key < x.key
   ·rw [if_pos h2] at h ⊢; exact hc _ _ h
   ·rw [if_neg h2] at h ⊢
    by_cases h3:errJ x y = 0
    ·rw [if_pos h3] at h ⊢; exact hc _ _ h
    ·rw [if_neg h3]
theorem zxbz {x y:Ce} {a b:List Ce} (h:x.key < y.key):mergeC (x :: a) (y :: b) = consE x (mergeC a (y :: b)):=by rw [mergeC,if_pos h]
theorem zxby {x y:Ce} {a b:List Ce} (h:y.key < x.key):mergeC (x :: a) (y :: b) = consE y (mergeC (x :: a) b):=by rw [mergeC,if_neg (by omega),if_pos h]
theorem zxbx {x y:Ce} {a b:List Ce} (h1:x.key = y.key) (h:errJ x y = 0):mergeC (x :: a) (y :: b) = consE (joinC x y) (mergeC a b):=by rw [mergeC,if_neg (by omega),if_neg (by omega),if_pos h]
theorem zxb0 {x y:Ce} {a b:List Ce} (h1:x.key = y.key) (h:errJ x y ≠ 0):mergeC (x :: a) (y :: b) = (errJ x y,[]):=by rw [mergeC,if_neg (by omega),if_neg (by omega),if_neg h]
theorem zxbu {a b:List Ce} (h:a.length = 0 ∨ b.length = 0):mergeC a b = (0,a ++ b):=by
 rcases h with h | h
 ·obtain rfl:=List.length_eq_zero_iff.1 h; unfold mergeC; simp
 ·obtain rfl:=List.length_eq_zero_iff.1 h;cases a <;> (unfold mergeC; simp)
theorem zxa5 {l:List Ce} (h:1 ≤ l.length):l = cg l 0 :: l.drop 1:=by
 cases l with
 | nil => simp at h
 | cons x l => rfl
theorem zxah {B:Nat} {w W w3:World} {v v':Value} {ps:List (Value × Value × Ce)} {p:Value × Value × Ce} {o:Obj} (h:CsRow B W v ps) (hb:Below B w W) (hB:B ≤ W.heap.size) (hc:CeS B W p.1 p.2.1 p.2.2)
  (hown:w3.ownsRow B 38 4 v' (ps.length + 1) (cellsC ps ++ rowC p)) (hg:(W.alloc o).grownBy w3 v.ownBlock):CsRow B w3 v' (ps ++ [p]) ∧ Below B w w3:=by
 have hW:=h.below hB (zqab W o);have hBW:B ≤ (W.alloc o).heap.size:=Nat.le_trans hB (zqab W o).size;refine ⟨hW.push hBW (fun q hq => ?_) (by simpa [cellsC] using hown) hg,(hb.trans ((zqab W o).mono hB)).trans (hW.keeps hBW hg).b⟩
 obtain rfl:q = p:=by simpa using hq
 exact hc.keep (zqag hB (zqab W o))
theorem zxag {w:World} {p:Value × Value × Ce} (h:CeM w p.1 p.2.1 p.2.2):∀ u ∈ rowC p,u.oneCell' = true:=fun u hu => by
 have:=h.ones;simp only [rowC,List.mem_cons,List.not_mem_nil,or_false] at hu;rcases hu with rfl | rfl | rfl | rfl
 ·rfl
 ·rfl
 ·exact this.1
 ·exact this.2
def JAt (W:World) (M:Nat) (c:Ce) (I N:Value) (wx:World):Prop:=Below W.heap.size W wx ∧ W.heap.size ≤ M ∧ wx.heap[M]? = some (.cells (boxV c.key c.cnt I N) 38 (0,0)) ∧ CeOwn wx W.heap.size I N c
theorem zxa2 {W w3:World} {c:Ce} {I N:Value} {B:Nat} (hb:Below W.heap.size W w3) (ho:CeOwn w3 B I N c) (hB:W.heap.size ≤ B):JAt W w3.heap.size c I N (w3.alloc (CeO c I N)) :=
 ⟨zqaa hb (zqab _ _),hb.size,heap_alloc_new _ _,(ho.low hB).below (zqab _ _)⟩
theorem zxa3 {W w3:World} {c:Ce} {I N:Value} {B:Nat} (hM:w3.heap[W.heap.size]? = some (.cells (boxV 0 0 (.slice none 0 0) (.slice none 0 0)) 38 (0,0))) (hb:Below W.heap.size W w3) (ho:CeOwn w3 B I N c) (hB:W.heap.size ≤ B):JAt W W.heap.size c I N (set4 w3 W.heap.size c.key c.cnt I N):=by
 obtain ⟨ps,qs,h1,h2,h3,h4⟩:=ho.low hB;exact ⟨zqao hb (Nat.le_refl _),Nat.le_refl _,zqan hM,ps,qs,zqg7 hM (by decide) (by decide) h1,zqg6 hM (by decide) (by decide) h2,h3,h4⟩
theorem zxbi {w:World} {P:Nat} {T:TypeId} {a b:Value} (h:w.heap[P]? = some (.cells #[a,b] T (0,0))):w.cell? ⟨P,0,none⟩ = some a ∧ w.cell? ⟨P,1,none⟩ = some b:=by simp [World.cell?,h]
theorem zxca {w w':World} {B E sz n:Nat} {v u:Value} {xs:List Value} (h:w.ownsRow B E sz v n xs) (hg:w.grownBy w' u.ownBlock) (hne:∀ g,v.ownBlock = some g → u.ownBlock ≠ some g):w'.ownsRow B E sz v n xs:=by
 refine ⟨h.1,h.2.imp id ?_⟩;rintro ⟨g,cap,cur,rfl,h1,h2,h3⟩;exact ⟨g,cap,cur,rfl,h1,(hg.block g (Array.getElem?_eq_some_iff.1 h2).1 (fun e => hne g rfl e.symm)).trans h2,h3⟩
def Ap (w:World) (u v:Value):Prop:=∀ g,v.ownBlock = some g → g < w.heap.size ∧ u.ownBlock ≠ some g
theorem Ap.size {w w':World} {u v:Value} (h:Ap w u v) (hs:w.heap.size ≤ w'.heap.size):Ap w' u v:=fun g hg => ⟨Nat.lt_of_lt_of_le (h g hg).1 hs,(h g hg).2⟩
theorem Ap.app {w w':World} {u u' v:Value} (h:Ap w u v) (hb:u'.ownBlock = u.ownBlock ∨ u'.ownBlock = some w.heap.size) (hs:w.heap.size ≤ w'.heap.size):Ap w' u' v:=fun g hg => ⟨Nat.lt_of_lt_of_le (h g hg).1 hs,by
 rcases hb with e | e
 ·rw [e]; exact (h g hg).2
 ·rw [e]; intro q; injection q with q; have:=(h g hg).1; omega⟩
theorem zxb9 {w':World} {u v:Value} {B n:Nat} {xs:List Value} {E sz:Nat} (ho:w'.ownsRow B E sz v n xs) (hu:∀ g,u.ownBlock = some g → g < B):Ap w' u v:=fun g hg => by
 rcases ho.2 with ⟨rfl,-⟩ | ⟨g',cap,cur,rfl,h1,h2,-⟩
 ·simp [Value.ownBlock] at hg
 ·have e:g' = g:=by simpa [Value.ownBlock] using hg
  subst e;exact ⟨(Array.getElem?_eq_some_iff.1 h2).1,fun q => by have:=hu _ q; omega⟩
theorem zxbd {w:World} {B E sz n:Nat} {v:Value} {xs:List Value} (h:w.ownsRow B E sz v n xs):∀ g,v.ownBlock = some g → g < w.heap.size:=fun g hg => by
 rcases h.2 with ⟨rfl,-⟩ | ⟨g',cap,cur,rfl,h1,h2,-⟩
 ·simp [Value.ownBlock] at hg
 ·have e:g' = g:=by simpa [Value.ownBlock] using hg
  subst e;exact (Array.getElem?_eq_some_iff.1 h2).1
def MergeP (w:World) (a b:List Ce) (e:Ending) (w':World):Prop:=∃ r,e = .returned (.tuple #[r,.int .i64 (mergeE a b).1]) ∧ ∃ ps,CsRow w.heap.size w' r ps ∧ ps.map cellOf = (mergeE a b).2 ∧ Below w.heap.size w w'
set_option maxHeartbeats 16000000 in
theorem zxbn (w:World) (u v:Value) (a b:List Ce) (ha:Cells w u a) (hb:Cells w v b) (sa:∀ c ∈ a,Sm c) (sb:∀ c ∈ b,Sm c) (hl:a.length + b.length ≤ 1000) (hT:Tab w) :
  Calls Tryz.prog 25 #[u,v] w (MergeP w a b):=by
 obtain ⟨i0,hi,hz0,hz1,hz2⟩:=info_parts Tryz.infoCell;have HRa:=zh (fun w1 (h1:Below w.heap.size w w1) => zqoq w1 u a (ha.below h1))
 have HRb:=zh (fun w1 (h1:Below w.heap.size w w1) => zqoq w1 v b (hb.below h1))
 have HC0:=zh (And.intro ha hb);have HS0:=zh (And.intro sa sb);have HT:=zh hT;have HOw:=zh (fun w1 I N (c:Ce) (h:CeM w1 I N c) (hs:Sm c) => zqw9 w1 c I N h hs.own)
 have HJn:=zh (fun w1 (h1:Below w.heap.size w w1) I N I' N' (x y:Ce) (hx:CeM w1 I N x) (hy:CeM w1 I' N' y) (sx:Sm x) (sy:Sm y) => zqop w1 x y I N I' N' hx hy sx.w sy.w (sx.s.mono (by decide)) (sy.s.mono (by decide)) (HT.out.call h1))
 obtain ⟨pu,cu,rfl,-⟩:=id ha;obtain ⟨pv,cv,rfl,-⟩:=id hb;unfold MergeP;generalize hG:mergeE a b = G;have HE:=zh (show ∀ ra rb,risingB a = ra → risingB b = rb → G = if ra = true ∧ rb = true then mergeC a b else (1,[]) from fun ra rb e1 e2 => by rw [← hG]; unfold mergeE; rw [e1,e2])
 clear hG;clear ha hb sa sb hT;go_enter Tryz.func25,Tryz.ntmps25;go_wp2_with fail;refine (HRa.out _ (Below.refl _ _)).mono ?_; rintro e w1 ⟨rfl,hb1⟩;have HB1:=zh hb1;clear hb1;have HE2:=zh (HE.out _ _ rfl rfl);generalize risingB a = ra at *;generalize risingB b = rb at *;clear HE;cases ra with
 | false =>
  obtain rfl:G = (1,[]):=HE2.out.trans (by simp)
  go_wp2_with fail;exact bodyPost_ret (v:=.tuple #[.slice none 0 0,.int .i64 1]) (by simp [results,Tryz.results25,go_sem]) rfl ⟨_,rfl,[],CsRow.nil _ _,rfl,HB1.out⟩
 | true =>
 go_wp2_with fail;refine (HRb.out _ HB1.out).mono ?_; rintro e w2 ⟨rfl,hb2⟩;have HB2:=zh (zqaa HB1.out hb2);clear hb2;cases rb with
 | false =>
  obtain rfl:G = (1,[]):=HE2.out.trans (by simp)
  go_wp2_with fail;exact bodyPost_ret (v:=.tuple #[.slice none 0 0,.int .i64 1]) (by simp [results,Tryz.results25,go_sem]) rfl ⟨_,rfl,[],CsRow.nil _ _,rfl,HB2.out⟩
 | true =>
 have hM:G = mergeC a b:=HE2.out.trans (by simp)
 have HMn:=zh (show G.1 ≠ 0 → G.2 = [] by rw [hM]; exact zxa8 a b)
 have HM0:=zh (show G = preE (([]:List (Value × Value × Ce)).map cellOf) (mergeC a b) by rw [hM]; exact (pre_nil (zxa8 a b)).symm)
 clear hM HE2 HRa HRb HB1;go_wp2_with fail;go_loopw [0,1,6] (fun va vb vl wr => ∃ (a1 b1:List Ce) (ps:List (Value × Value × Ce)),(∃ p c,va = .slice p a1.length c) ∧ (∃ p c,vb = .slice p b1.length c) ∧ ps.length + a1.length + b1.length ≤ 1000 ∧ Hid (Cells w va a1 ∧ Cells w vb b1) ∧ Hid ((∀ c ∈ a1,Sm c) ∧ ∀ c ∈ b1,Sm c) ∧ Hid (CsRow w.heap.size wr vl ps ∧ Below w.heap.size w wr) ∧ Hid (G = preE (ps.map cellOf) (mergeC a1 b1))) (fun va vb _ _ => lenV va + lenV vb)
 case atStart => exact ⟨a,b,[],⟨_,_,rfl⟩,⟨_,_,rfl⟩,by simpa using hl,HC0,HS0,zh ⟨CsRow.nil _ _,HB2.out⟩,HM0⟩
 case round =>
  clear HC0 HS0 HB2 HM0 hl;obtain ⟨a1,b1,ps,⟨pa,ca,rfl⟩,⟨pb,cb,rfl⟩,hlen,HC,HS,HR,HM⟩:=hrel;obtain ⟨pl,cl,rfl⟩:=HR.out.1.any
  by_cases hab:1 ≤ a1.length ∧ 1 ≤ b1.length
  ·obtain ⟨ha0,hb0⟩:=hab;have ha':(0:Int) < (a1.length:Int):=by omega
   have hb':(0:Int) < (b1.length:Int):=by omega
   have hsz:=HR.out.2.size;obtain ⟨ba,oa,rfl,-,I,N,hx⟩:=(HC.out.1.below HR.out.2).at (i:=0) (by omega)
   obtain ⟨bb,ob,rfl,-,I',N',hy⟩:=(HC.out.2.below HR.out.2).at (i:=0) (by omega)
   obtain ⟨ua,da,hopa,hta⟩:=zxaz HC.out.1 ha0;obtain ⟨ub,db,hopb,htb⟩:=zxaz HC.out.2 hb0;have HTa:=zh hta;have HTb:=zh htb;have HHa:=zh (zxa5 ha0);have HHb:=zh (zxa5 hb0);have HXY:=zh (And.intro hx.m hy.m);have HSx:=zh (And.intro (HS.out.1 (cg a1 0) (by rw [zqat (by omega)]; exact List.getElem_mem _)) (HS.out.2 (cg b1 0) (by rw [zqat (by omega)]; exact List.getElem_mem _)))
   have HSa:=zh (show ∀ c ∈ a1.drop 1,Sm c from fun c hc => HS.out.1 c (List.mem_of_mem_drop hc))
   have HSb:=zh (show ∀ c ∈ b1.drop 1,Sm c from fun c hc => HS.out.2 c (List.mem_of_mem_drop hc))
   obtain ⟨⟨qi,ki,rfl⟩,qn,kn,rfl⟩:=hx.m.slices;obtain ⟨⟨qi',ki',rfl⟩,qn',kn',rfl⟩:=hy.m.slices;obtain ⟨x0,x1,x2,x3,-⟩:=hx;obtain ⟨y0,y1,y2,y3,-⟩:=hy;simp only [Nat.zero_mul,Nat.add_zero] at x0 x1 x2 x3 y0 y1 y2 y3;generalize cg a1 0 = x at *;generalize cg b1 0 = y at *;clear hta htb;have HD:=zh (fun n => And.intro ((Drawn.refl wr).next n).below (zqaa HR.out.2 ((Drawn.refl wr).next n).below))
   by_cases h1:x.key < y.key
   ·have hd1:decide (x.key < y.key) = true:=decide_eq_true h1;have HM1:=zh (show G = preE (ps.map cellOf ++ [x]) (mergeC (a1.drop 1) b1) from HM.out.trans (by rw [show mergeC a1 b1 = mergeC (x :: a1.drop 1) (y :: b1.drop 1) from congr (congrArg mergeC HHa.out) HHb.out,zxbz h1,zxaj,← HHb.out]))
    go_wp2_with fail;go_quiet (fail);have HA:=HTa;have HBb:=zh HC.out.2;have HSA:=HSa;have HSB:=zh HS.out.2;have HOc:=zh (fun n => HOw.out (wr.drewN n) (.slice qi x.is.length ki) (.slice qn x.ns.length kn) x (HXY.out.1.below (HD.out n).1) HSx.out.1)
    go_wp2_with fail;refine (HOc.out _).mono ?_; rintro e w3 ⟨I3,N3,rfl,hco,hb3⟩;have HB3:=zh (zqaa (HD.out _).2 hb3);have HR3:=zh (HR.out.1.below hsz (zqaa (HD.out _).1 hb3));have HCo:=zh hco;obtain ⟨⟨p3,k3,rfl⟩,q3,l3,rfl⟩:=hco.slices;have hsz3:=HB3.out.size;clear hco hb3 HOc;go_wp2_with (first | simp only | (at_builtin; refine zqbd _ (by rfl) _ _ 28 rfl w.heap.size 38 i0 CZ 4 64 Tryz.underlying28 hi hz0 hz1 hz2 zqo5 (by decide) _ _ ps.length 1 (cellsC ps) (rowC (.slice p3 x.is.length k3,.slice q3 x.ns.length l3,x)) rfl rfl (zqaj HR3.out.o (zqab _ _)) (zqtu w3 (.slice p3 x.is.length k3,.slice q3 x.ns.length l3,x)) rfl (zxag HCo.out.mem) (by unfold maxLen; omega) (by omega) (by have:=hsz3; simp; omega) ?_; intro v' w4 hown hgrow; have HR4:=zh (zxah HR3.out HB3.out hsz3 (zqmn HCo.out) hown hgrow); obtain ⟨pv',cv',rfl⟩:=zqae hown; clear hown hgrow))
    go_roundw
    case rel => exact ⟨a1.drop 1,b1,ps ++ [(.slice p3 x.is.length k3,.slice q3 x.ns.length l3,x)],⟨_,_,by rw [List.length_drop]⟩,⟨_,_,rfl⟩,by simp; omega,zh ⟨HA.out,HBb.out⟩,zh ⟨HSA.out,HSB.out⟩,zh HR4.out,zh (by rw [List.map_append]; exact HM1.out)⟩
    case measure => simp [lenV]; omega
   ·have hd1:decide (x.key < y.key) = false:=decide_eq_false h1;have H1:=zh h1;go_wp2_with fail;go_quiet (fail)
    revert nq
    intro mq
    by_cases h2:y.key < x.key
    ·have hd2:decide (y.key < x.key) = true:=decide_eq_true h2;have HM1:=zh (show G = preE (ps.map cellOf ++ [y]) (mergeC a1 (b1.drop 1)) from HM.out.trans (by rw [show mergeC a1 b1 = mergeC (x :: a1.drop 1) (y :: b1.drop 1) from congr (congrArg mergeC HHa.out) HHb.out,zxby h2,zxaj,← HHa.out]))
     have HA:=zh HC.out.1;have HBb:=HTb;have HSA:=zh HS.out.1;have HSB:=HSb;go_wp2_with fail;go_quiet (fail);have HOc:=zh (fun n => HOw.out (wr.drewN n) (.slice qi' y.is.length ki') (.slice qn' y.ns.length kn') y (HXY.out.2.below (HD.out n).1) HSx.out.2)
     go_wp2_with fail;refine (HOc.out _).mono ?_; rintro e w3 ⟨I3,N3,rfl,hco,hb3⟩;have HB3:=zh (zqaa (HD.out _).2 hb3);have HR3:=zh (HR.out.1.below hsz (zqaa (HD.out _).1 hb3));have HCo:=zh hco;obtain ⟨⟨p3,k3,rfl⟩,q3,l3,rfl⟩:=hco.slices;have hsz3:=HB3.out.size;clear hco hb3 HOc;go_wp2_with (first | simp only | (at_builtin; refine zqbd _ (by rfl) _ _ 28 rfl w.heap.size 38 i0 CZ 4 64 Tryz.underlying28 hi hz0 hz1 hz2 zqo5 (by decide) _ _ ps.length 1 (cellsC ps) (rowC (.slice p3 y.is.length k3,.slice q3 y.ns.length l3,y)) rfl rfl (zqaj HR3.out.o (zqab _ _)) (zqtu w3 (.slice p3 y.is.length k3,.slice q3 y.ns.length l3,y)) rfl (zxag HCo.out.mem) (by unfold maxLen; omega) (by omega) (by have:=hsz3; simp; omega) ?_; intro v' w4 hown hgrow; have HR4:=zh (zxah HR3.out HB3.out hsz3 (zqmn HCo.out) hown hgrow); obtain ⟨pv',cv',rfl⟩:=zqae hown; clear hown hgrow))
     go_roundw
     case rel => exact ⟨a1,b1.drop 1,ps ++ [(.slice p3 y.is.length k3,.slice q3 y.ns.length l3,y)],⟨_,_,rfl⟩,⟨_,_,by rw [List.length_drop]⟩,by simp; omega,zh ⟨HA.out,HBb.out⟩,zh ⟨HSA.out,HSB.out⟩,zh HR4.out,zh (by rw [List.map_append]; exact HM1.out)⟩
     case measure => simp [lenV]; omega
    ·have hd2:decide (y.key < x.key) = false:=decide_eq_false h2;have HK:=zh (show x.key = y.key by omega)
     have HJk:=zh (fun w1 (h1:Below wr.heap.size wr w1) => HJn.out w1 (zqaa HR.out.2 h1) _ _ _ _ x y (HXY.out.1.below h1) (HXY.out.2.below h1) HSx.out.1 HSx.out.2)
     unfold RJ14 at HJk;go_wp2_with fail;go_quiet (fail);have HWb:=zh (HD.out (mq + nq)).1;have x0:(wr.drewN (mq + nq)).cell? _ = _:=x0;have x1:(wr.drewN (mq + nq)).cell? _ = _:=x1;have x2:(wr.drewN (mq + nq)).cell? _ = _:=x2;have x3:(wr.drewN (mq + nq)).cell? _ = _:=x3;have y0:(wr.drewN (mq + nq)).cell? _ = _:=y0;have y1:(wr.drewN (mq + nq)).cell? _ = _:=y1;have y2:(wr.drewN (mq + nq)).cell? _ = _:=y2;have y3:(wr.drewN (mq + nq)).cell? _ = _:=y3;have hWs:wr.heap.size = (wr.drewN (mq + nq)).heap.size:=rfl;go_wp2_with fail;try rw [World.drewN_drewN]
     generalize hWW:wr.drewN (mq + nq) = W at *;have HJz:=zh (fun w1 (h1:Below W.heap.size W w1) => HJk.out w1 (zqaa HWb.out h1))
     have hal:=zqab W.drew (.cells #[.int .u64 0,.int .i64 0,.slice none 0 0,.slice none 0 0] 38);have a0:(W.drew.alloc (.cells #[.int .u64 0,.int .i64 0,.slice none 0 0,.slice none 0 0] 38)).cell? _ = _:=cell_later hal x0;have a1':(W.drew.alloc (.cells #[.int .u64 0,.int .i64 0,.slice none 0 0,.slice none 0 0] 38)).cell? _ = _:=cell_later hal x1;have a2:(W.drew.alloc (.cells #[.int .u64 0,.int .i64 0,.slice none 0 0,.slice none 0 0] 38)).cell? _ = _:=cell_later hal x2;have a3:(W.drew.alloc (.cells #[.int .u64 0,.int .i64 0,.slice none 0 0,.slice none 0 0] 38)).cell? _ = _:=cell_later hal x3;have b0:(W.drew.alloc (.cells #[.int .u64 0,.int .i64 0,.slice none 0 0,.slice none 0 0] 38)).cell? _ = _:=cell_later hal y0;have b1':(W.drew.alloc (.cells #[.int .u64 0,.int .i64 0,.slice none 0 0,.slice none 0 0] 38)).cell? _ = _:=cell_later hal y1;have b2:(W.drew.alloc (.cells #[.int .u64 0,.int .i64 0,.slice none 0 0,.slice none 0 0] 38)).cell? _ = _:=cell_later hal y2;have b3:(W.drew.alloc (.cells #[.int .u64 0,.int .i64 0,.slice none 0 0,.slice none 0 0] 38)).cell? _ = _:=cell_later hal y3;have c0:(W.alloc (.cells #[.int .u64 0,.int .i64 0,.slice none 0 0,.slice none 0 0] 38)).cell? _ = _:=cell_later (zqab W (.cells #[.int .u64 0,.int .i64 0,.slice none 0 0,.slice none 0 0] 38)) x0;have c1:(W.alloc (.cells #[.int .u64 0,.int .i64 0,.slice none 0 0,.slice none 0 0] 38)).cell? _ = _:=cell_later (zqab W (.cells #[.int .u64 0,.int .i64 0,.slice none 0 0,.slice none 0 0] 38)) x1;have c2:(W.alloc (.cells #[.int .u64 0,.int .i64 0,.slice none 0 0,.slice none 0 0] 38)).cell? _ = _:=cell_later (zqab W (.cells #[.int .u64 0,.int .i64 0,.slice none 0 0,.slice none 0 0] 38)) x2;have c3:(W.alloc (.cells #[.int .u64 0,.int .i64 0,.slice none 0 0,.slice none 0 0] 38)).cell? _ = _:=cell_later (zqab W (.cells #[.int .u64 0,.int .i64 0,.slice none 0 0,.slice none 0 0] 38)) x3;have d0:(W.alloc (.cells #[.int .u64 0,.int .i64 0,.slice none 0 0,.slice none 0 0] 38)).cell? _ = _:=cell_later (zqab W (.cells #[.int .u64 0,.int .i64 0,.slice none 0 0,.slice none 0 0] 38)) y0;have d1:(W.alloc (.cells #[.int .u64 0,.int .i64 0,.slice none 0 0,.slice none 0 0] 38)).cell? _ = _:=cell_later (zqab W (.cells #[.int .u64 0,.int .i64 0,.slice none 0 0,.slice none 0 0] 38)) y1;have d2:(W.alloc (.cells #[.int .u64 0,.int .i64 0,.slice none 0 0,.slice none 0 0] 38)).cell? _ = _:=cell_later (zqab W (.cells #[.int .u64 0,.int .i64 0,.slice none 0 0,.slice none 0 0] 38)) y2;have d3:(W.alloc (.cells #[.int .u64 0,.int .i64 0,.slice none 0 0,.slice none 0 0] 38)).cell? _ = _:=cell_later (zqab W (.cells #[.int .u64 0,.int .i64 0,.slice none 0 0,.slice none 0 0] 38)) y3;clear hal;go_cut [7,8] from 27 to 36 (fun v7 v8 wx => ∃ (M:Nat) (c:Ce) (p3 q3:Option Addr) (k3 l3:Nat),v7 = .pointer (some ⟨M,0,none⟩) ∧ v8 = .int .i64 (errJ x y) ∧ Hid (JAt W M c (.slice p3 c.is.length k3) (.slice q3 c.ns.length l3) wx ∧ (errJ x y = 0 → JC x y c) ∧ (errJ x y ≠ 0 → c = ce0)))
     case first =>
      go_region_law (first
       | (go_simp; go_at_call 55; refine (HJz.out _ (by (repeat' first | exact Below.refl _ _ | refine Below.drew ?_ | refine Below.alloc ?_ (by first | exact Nat.le_refl _ | (simp; done) | (simp; omega)) _); done)).mono ?_; rintro e w3 ⟨c,I3,N3,rfl,hco,hj1,hj2,hb3⟩; obtain ⟨⟨p3,k3,rfl⟩,q3,l3,rfl⟩:=hco.slices; (first | (have hbW:Below W.heap.size W w3:=zqaw hb3) | (obtain ⟨hMz,hbW⟩:=zqm1 (W:=W) (w2:=w3) (cs:=#[.int .u64 0,.int .i64 0,.slice none 0 0,.slice none 0 0]) (T:=38) hb3; have zf:=zqav hMz; obtain ⟨z0,z1,z2,z3⟩:=row4 hMz) | (obtain ⟨hMz,hbW⟩:=zqm2 (W:=W) (w2:=w3) (cs:=#[.int .u64 0,.int .i64 0,.slice none 0 0,.slice none 0 0]) (T:=38) hb3; have zf:=zqav hMz; obtain ⟨z0,z1,z2,z3⟩:=row4 hMz))))
      all_goals
       go_wp2_with fail;go_meet
       first
        | (have h1:=zxa3 hMz hbW hco (by first | exact Nat.le_refl _ | (simp; done) | (simp; omega)); exact ⟨_,c,p3,q3,k3,l3,rfl,rfl,zh ⟨h1,hj1,hj2⟩⟩)
        | (have h1:=zxa2 hbW hco (by first | exact Nat.le_refl _ | (simp; done) | (simp; omega)); exact ⟨_,c,p3,q3,k3,l3,rfl,rfl,zh ⟨h1,hj1,hj2⟩⟩)
     case rest =>
      obtain ⟨M,c,p3,q3,k3,l3,rfl,rfl,hC⟩:=hcut;have HBc:=zh (zqaa HWb.out hC.out.1.1);have HB3:=zh (zqaa HR.out.2 HBc.out);have HR3:=zh (HR.out.1.below hsz HBc.out);have HCo:=zh hC.out.1.2.2.2;have hsz3:=HB3.out.size;obtain ⟨m0,m1,m2,m3⟩:=row4 hC.out.1.2.2.1;have HJs:=zh hC.out.2;clear x0 x1 x2 x3 y0 y1 y2 y3 a0 a1' a2 a3 b0 b1' b2 b3 c0 c1 c2 c3 d0 d1 d2 d3 HJz HJk hC hWs HXY
      by_cases hE:errJ x y = 0
      ·have hE':(((errJ x y:Nat):Int) != 0) = false:=by rw [hE]; rfl
       have hcj:c = joinC x y:=zqh6 HJs.out.1 HJs.out.2;have HM1:=zh (show G = preE (ps.map cellOf ++ [c]) (mergeC (a1.drop 1) (b1.drop 1)) from HM.out.trans (by rw [show mergeC a1 b1 = mergeC (x :: a1.drop 1) (y :: b1.drop 1) from congr (congrArg mergeC HHa.out) HHb.out,zxbx HK.out hE,zxaj,hcj]))
       generalize ((errJ x y:Nat):Int) = EE at *;clear hE hcj;go_wp2_with (at_builtin; refine zqbd _ (by rfl) _ _ 28 rfl w.heap.size 38 i0 CZ 4 64 Tryz.underlying28 hi hz0 hz1 hz2 zqo5 (by decide) _ _ ps.length 1 (cellsC ps) (rowC (.slice p3 c.is.length k3,.slice q3 c.ns.length l3,c)) rfl rfl (zqaj HR3.out.o (zqab _ _)) (zqtu wc (.slice p3 c.is.length k3,.slice q3 c.ns.length l3,c)) rfl (zxag HCo.out.mem) (by unfold maxLen; omega) (by omega) (by have:=hsz3; simp; omega) ?_; intro v' w4 hown hgrow; have HR4:=zh (zxah HR3.out HB3.out hsz3 (zqmn HCo.out) hown hgrow); obtain ⟨pv',cv',rfl⟩:=zqae hown; clear hown hgrow)
       go_quiet (simp only [hopa,hopb]);go_wp2_with fail;exact ⟨⟨a1.drop 1,b1.drop 1,ps ++ [(.slice p3 c.is.length k3,.slice q3 c.ns.length l3,c)],⟨_,_,by rw [List.length_drop]⟩,⟨_,_,by rw [List.length_drop]⟩,by simp; omega,zh ⟨HTa.out,HTb.out⟩,zh ⟨HSa.out,HSb.out⟩,zh ⟨HR4.out.1.below HR4.out.2.size ((Drawn.refl w4).next nq).below,zqaa HR4.out.2 ((Drawn.refl w4).next nq).below⟩,zh (by rw [List.map_append]; exact HM1.out)⟩,by simp [lenV]; omega⟩
      ·have hE':(((errJ x y:Nat):Int) != 0) = true:=by simp; exact hE
       have hG:=HM.out.trans (by rw [show mergeC a1 b1 = mergeC (x :: a1.drop 1) (y :: b1.drop 1) from congr (congrArg mergeC HHa.out) HHb.out,zxb0 HK.out hE])
       obtain rfl:G = (errJ x y,[]):=hG.trans (by unfold preE; rw [if_neg hE])
       clear hE hG;go_wp2_with fail;exact bodyPost_ret (v:=.tuple #[.slice none 0 0,.int .i64 ((errJ x y:Nat):Int)]) (by simp [results,Tryz.results25,go_sem]) rfl ⟨_,rfl,[],CsRow.nil _ _,rfl,HB3.out⟩
  ·have hend:a1.length = 0 ∨ b1.length = 0:=by omega
   obtain rfl:G = (0,ps.map cellOf ++ (a1 ++ b1)):=HM.out.trans (by rw [zxbu hend]; rfl)
   obtain ⟨pas,ea,ma,na⟩:=HC.out.1.rows;obtain ⟨pbs,eb,mb,nb⟩:=HC.out.2.rows;have hla:pas.length = a1.length:=by rw [← ea]; simp
   have hlb:pbs.length = b1.length:=by rw [← eb]; simp
   have HP:=zh (show ∀ p ∈ pas ++ pbs,CeM w p.1 p.2.1 p.2.2 ∧ Sm p.2.2 from fun p hp => by
    rcases List.mem_append.1 hp with hp | hp
    ·exact ⟨ma p hp,HS.out.1 _ (by rw [← ea]; exact List.mem_map_of_mem hp)⟩
    ·exact ⟨mb p hp,HS.out.2 _ (by rw [← eb]; exact List.mem_map_of_mem hp)⟩)
   have HEq:=zh (show (pas ++ pbs).map cellOf = a1 ++ b1 by rw [List.map_append,ea,eb])
   have hpl:(pas ++ pbs).length = a1.length + b1.length:=by simp; omega
   have hsz:=HR.out.2.size;have HL0:=zh (zqab wr (.cells #[.slice pa a1.length ca,.slice pb b1.length cb] 28));have HRw:=zh (show RowsC (wr.alloc (.cells #[.slice pa a1.length ca,.slice pb b1.length cb] 28)) (.slice (some ⟨wr.heap.size,0,none⟩) 2 2) [pas,pbs] from by
    have h:=heap_alloc_new wr (.cells #[.slice pa a1.length ca,.slice pb b1.length cb] 28);refine ⟨wr.heap.size,rfl,by simp,fun k hk => ?_⟩
    rcases (show k = 0 ∨ k = 1 by have:k < 2:=hk; omega) with rfl | rfl
    ·exact ⟨_,(zxbi h).1,zqb0 (show NewsAt w (.slice pa a1.length ca) pas.length (cellsC pas) from na) (zqaa HR.out.2 HL0.out)⟩
    ·exact ⟨_,(zxbi h).2,zqb0 (show NewsAt w (.slice pb b1.length cb) pbs.length (cellsC pbs) from nb) (zqaa HR.out.2 HL0.out)⟩)
   have HCc:=zh (zxbg _ _ [pas,pbs] HRw.out (by simp; omega) (by simp) (fun q hq => by
    rcases List.mem_cons.1 hq with rfl | hq
    ·exact zxab fun p hp => (HP.out p (List.mem_append_left _ hp)).1
    ·obtain rfl:q = pbs:=by simpa using hq
     exact zxab fun p hp => (HP.out p (List.mem_append_right _ hp)).1))
   have hfl:[pas,pbs].flatten = pas ++ pbs:=by simp
   rw [hfl] at HCc;have HLn:=zh (show ps.length + (pas ++ pbs).length ≤ 1000 by omega)
   generalize hL:pas ++ pbs = L at *;have hLn:L.length ≤ 1000:=by have:=HLn.out; omega
   clear hpl;have HBl:=zh (zqaa HR.out.2 HL0.out);have HRl:=zh (HR.out.1.below hsz HL0.out);have HOl:=zh (zxbd HRl.out.o);have hsz2:=HBl.out.size;clear ea eb ma mb na nb hfl hla hlb HRw HC HS HM hL HL0 HR;have hcond:((a1.length:Int) = 0 ∧ (0:Int) ≤ b1.length) ∨ ((0:Int) < a1.length ∧ (b1.length:Int) = 0):=by omega
   rcases hcond with hc | hc
   all_goals
    obtain ⟨hc1,hc2⟩:=hc;go_wp2_with fail;refine (HCc.out).mono ?_; rintro e w3 ⟨⟨v3,rfl,ho3⟩,hb3⟩;have HB3:=zh (zqaa HBl.out hb3);have HR3:=zh (HRl.out.below hsz2 hb3);have HAp:=zh (zxb9 (u:=.slice pl ps.length cl) ho3 HOl.out);have HO3:=zh (zqak ho3 hsz2);obtain ⟨pc,cc,rfl⟩:=zqae ho3;clear ho3 hb3 HCc HBl HRl HOl hc1 hc2 hsz hsz2;go_wp2_with fail;go_loopw [91,6] (fun iv vl wr2 => ∃ (k:Nat) (ps2:List (Value × Value × Ce)),k ≤ L.length ∧ iv = .int .i64 k ∧ Hid (ps2.length = ps.length + k) ∧ Hid (ps2.map cellOf = ps.map cellOf ++ (L.take k).map cellOf) ∧ Hid (CsRow w.heap.size wr2 vl ps2 ∧ Below w.heap.size w wr2) ∧ Hid (Ap wr2 vl (.slice pc L.length cc)) ∧ Hid (wr2.ownsRow w.heap.size 38 4 (.slice pc L.length cc) L.length (cellsC L))) (fun iv _ _ => L.length - (intOf iv).toNat)
    case atStart => exact ⟨0,ps,Nat.zero_le _,rfl,zh rfl,zh (by simp),zh ⟨HR3.out,HB3.out⟩,HAp,HO3⟩
    case round =>
     clear HR3 HB3 HAp HO3;obtain ⟨k,ps2,hk,rfl,hl2,HM2,HR2,HA2,HO2⟩:=hrel;obtain ⟨pd,cd,rfl⟩:=HR2.out.1.any;have hp2:ps2.length ≤ 1000:=by have:=hl2.out; have:=HLn.out; omega
     by_cases hlt:k < L.length
     ·have hlt':(k:Int) < (L.length:Int):=by omega
      obtain ⟨g,rfl⟩:∃ g,pc = some ⟨g,0,none⟩:=by
       rcases HO2.out.2 with ⟨e,h0⟩ | ⟨g,cap,cur,e,-⟩
       ·omega
       ·injection e with e; exact ⟨g,e⟩
      have hcell:=fun j (hj:j < 4) => (World.ownsRow.cellAt HO2.out (k * 4 + j) (by omega)).trans (zqcn L k j hlt hj)
      obtain ⟨q,hq⟩:∃ q,L[k] = q:=⟨_,rfl⟩
      have HPq:=zh (HP.out q (by rw [← hq]; exact List.getElem_mem hlt))
      have HTk:=zh (show L.take (k + 1) = L.take k ++ [q] by rw [← hq,List.take_add_one,List.getElem?_eq_getElem hlt]; rfl)
      obtain ⟨I,N,c⟩:=q;have z0:wr.cell? ⟨g,k * 4,none⟩ = some (.int .u64 c.key):=by have:=hcell 0 (by decide); rw [hq] at this; exact this
      have z1:wr.cell? ⟨g,k * 4 + 1,none⟩ = some (.int .i64 c.cnt):=by have:=hcell 1 (by decide); rw [hq] at this; exact this
      have z2:wr.cell? ⟨g,k * 4 + 2,none⟩ = some I:=by have:=hcell 2 (by decide); rw [hq] at this; exact this
      have z3:wr.cell? ⟨g,k * 4 + 3,none⟩ = some N:=by have:=hcell 3 (by decide); rw [hq] at this; exact this
      clear hcell hq;obtain ⟨⟨qi,ki,e1⟩,qn,kn,e2⟩:=HPq.out.1.slices;simp only at e1 e2;subst e1 e2;have HOc:=zh (fun w1 (h1:Below w.heap.size w w1) => HOw.out w1 _ _ c (HPq.out.1.below h1) HPq.out.2)
      have hsz2:=HR2.out.2.size;have HX:=zh (zqab wr (.cells #[.int .u64 c.key,.int .i64 c.cnt,.slice qi c.is.length ki,.slice qn c.ns.length kn] 38));obtain ⟨m0,m1,m2,m3⟩:=row4 (heap_alloc_new wr (.cells #[.int .u64 c.key,.int .i64 c.cnt,.slice qi c.is.length ki,.slice qn c.ns.length kn] 38));go_upto_region 19 with fail;generalize wr.alloc (.cells #[.int .u64 c.key,.int .i64 c.cnt,.slice qi c.is.length ki,.slice qn c.ns.length kn] 38) = W4 at *;have HOk:=zh (HOc.out W4 (zqaa HR2.out.2 HX.out));clear z0 z1 z2 z3 HOc;go_wp2_with fail;refine HOk.out.mono ?_; rintro e w5 ⟨I3,N3,rfl,hco,hb5⟩;have hbb:=zqaa HX.out hb5;have HB5:=zh (zqaa HR2.out.2 hbb);have HR5:=zh (HR2.out.1.below hsz2 hbb);have HA5:=zh (HA2.out.size hbb.size);have HO5:=zh (zqaj HO2.out hbb);have HCo:=zh hco;obtain ⟨⟨p3,k3,rfl⟩,q3,l3,rfl⟩:=hco.slices;have hsz5:=HB5.out.size;clear hco hb5 hbb HOk HX HR2 HA2 HO2 m0 m1 m2 m3;go_wp2_with (at_builtin; refine zxau _ (by rfl) _ _ 28 rfl w.heap.size 38 i0 CZ 4 64 Tryz.underlying28 hi hz0 hz1 hz2 zqo5 (by decide) _ _ ps2.length 1 (cellsC ps2) (rowC (.slice p3 c.is.length k3,.slice q3 c.ns.length l3,c)) rfl rfl (zqaj HR5.out.o (zqab _ _)) (zqtu w5 (.slice p3 c.is.length k3,.slice q3 c.ns.length l3,c)) rfl (zxag HCo.out.mem) (by unfold maxLen; omega) (by omega) (by have:=hsz5; simp; omega) ?_; intro v' w6 hown hgrow hblk; have HR6:=zh (zxah HR5.out HB5.out hsz5 (zqmn HCo.out) hown hgrow); have HA6:=zh (((HA5.out.size (zqab w5 (.cells #[.int .u64 c.key,.int .i64 c.cnt,.slice p3 c.is.length k3,.slice q3 c.ns.length l3] 38)).size)).app hblk hgrow.size); have HO6:=zh (zxca (zqaj HO5.out (zqab w5 (.cells #[.int .u64 c.key,.int .i64 c.cnt,.slice p3 c.is.length k3,.slice q3 c.ns.length l3] 38))) hgrow fun g hg => (HA5.out g hg).2); obtain ⟨pv',cv',rfl⟩:=zqae hown; clear hown hgrow hblk)
      go_roundw
      case rel => exact ⟨k + 1,ps2 ++ [(.slice p3 c.is.length k3,.slice q3 c.ns.length l3,c)],by omega,by go_num,zh (by have:=hl2.out; simp; omega),zh (by rw [List.map_append,HM2.out,HTk.out,List.map_append,List.append_assoc]; rfl),zh HR6.out,HA6,HO6⟩
      case measure => simp [intOf]; omega
     ·have e:k = L.length:=by omega
      subst e;have hlt':¬ (L.length:Int) < (L.length:Int):=by omega
      go_wp2_with fail;exact bodyPost_ret (v:=.tuple #[.slice pd ps2.length cd,.int .i64 0]) (by simp [results,Tryz.results25,go_sem]) rfl ⟨_,rfl,ps2,HR2.out.1,by rw [HM2.out,List.take_length,HEq.out],HR2.out.2⟩
theorem zxa1 (x:Ce) (l:List Ce) (i:Nat):cg (x :: l) (i + 1) = cg l i:=rfl
theorem zxbj:∀ (l:List Ce) (c:Ce) (k:Nat),k ≤ l.length → (∀ j,j < k → (cg l j).key < c.key) → (k < l.length → ¬ (cg l k).key < c.key) →
  (k < l.length → (cg l k).key = c.key → errJ (cg l k) c = 0 → withL l c = (0,l.take k ++ [joinC (cg l k) c] ++ l.drop (k + 1))) ∧
  (k < l.length → (cg l k).key = c.key → errJ (cg l k) c ≠ 0 → withL l c = (errJ (cg l k) c,[])) ∧
  ((k < l.length → (cg l k).key ≠ c.key) → withL l c = (0,l.take k ++ [c] ++ l.drop k))
 | [],c,k,hk,_,_ => by
  obtain rfl:k = 0:=by simpa using hk
  exact ⟨fun h => by simp at h,fun h => by simp at h,fun _ => rfl⟩
 | x :: l,c,0,_,_,h2 => by
  have h3:¬ x.key < c.key:=h2 (by simp)
  have e:cg (x :: l) 0 = x:=rfl;refine ⟨fun _ h4 h5 => ?_,fun _ h4 h5 => ?_,fun h4 => ?_⟩
  ·rw [e] at h4 h5 ⊢;rw [withL,if_neg h3,if_pos h4,if_pos h5]; rfl
  ·rw [e] at h4 h5 ⊢;rw [withL,if_neg h3,if_pos h4,if_neg h5]
  ·have:=h4 (by simp)
   rw [e] at this;rw [withL,if_neg h3,if_neg this]; rfl
 | x :: l,c,k + 1,hk,h1,h2 => by
  have h0:x.key < c.key:=h1 0 (by omega)
  obtain ⟨i1,i2,i3⟩:=zxbj l c k (by simpa using hk) (fun j hj => h1 (j + 1) (by omega)) (fun h => h2 (by simpa using h))
  refine ⟨fun h3 h4 h5 => ?_,fun h3 h4 h5 => ?_,fun h4 => ?_⟩
  ·rw [zxa1] at h4 h5 ⊢;rw [withL,if_pos h0,i1 (by simpa using h3) h4 h5,if_pos rfl]; rfl
  ·rw [zxa1] at h4 h5 ⊢;rw [withL,if_pos h0,i2 (by simpa using h3) h4 h5,if_neg h5]
  ·rw [withL,if_pos h0,i3 (fun h => by have:=h4 (by simpa using h); rwa [zxa1] at this),if_pos rfl]; rfl
theorem zxcb {ps:List (Value × Value × Ce)} {i:Nat} (h:i < ps.length):pg ps i ∈ ps:=by rw [zqz9 h]; exact List.getElem_mem h
abbrev RowC (w:World) (B:Nat) (v:Value) (ps:List (Value × Value × Ce)):Prop:=w.ownsRow B 38 4 v ps.length (cellsC ps)
def ReadC (w:World) (v:Value) (ps:List (Value × Value × Ce)):Prop:=NewsAt w v ps.length (cellsC ps) ∧ ∀ u ∈ cellsC ps,u.oneCell' = true
theorem ReadC.below {w w':World} {v:Value} {ps:List (Value × Value × Ce)} (h:ReadC w v ps) (hb:Below w.heap.size w w'):ReadC w' v ps:=⟨zqb0 h.1 hb,h.2⟩
theorem RowC.shape {w:World} {B:Nat} {v:Value} {ps:List (Value × Value × Ce)} (h:RowC w B v ps):∃ a n c,v = .slice a n c:=by
 obtain ⟨a,c,e⟩:=zqae h;exact ⟨a,_,c,e⟩
theorem CsRow.tail {B n cap k:Nat} {w:World} {a:Option Addr} {ps:List (Value × Value × Ce)} (h:CsRow B w (.slice a n cap) ps) (hk:k ≤ ps.length) :
  ∃ u c,(∀ w',(Instr.slice 28 (.slice a n cap) (some (.int .i64 k)) none none).run Tryz.prog w' = .ok (.slice u (n - k) c) w') ∧ ReadC w (.slice u (n - k) c) (ps.drop k):=by
 have ho:=h.o;have hone:=zxab (w:=w) (ps:=ps.drop k) fun p hp => (h.m p (List.mem_of_mem_drop hp)).mem
 obtain ⟨a',c',e⟩:=h.any;injection e with e1 e2 e3;subst e1 e2 e3;refine ⟨_,_,fun w' => zxar hk size4,⟨_,_,by rw [List.length_drop],?_⟩,hone⟩
 by_cases h0:k = ps.length
 ·left;rw [h0]; simp [cellsC]
 ·right;rcases ho.2 with ⟨e,h0⟩ | ⟨g,cap',cur,e,-,-,hc1,-⟩
  ·omega
  ·injection e with e1 e2 e3;subst e1 e3;rw [if_neg (by omega)]
   refine ⟨g,k * 4,by simp [Addr.add]; omega,fun j u hu => ?_⟩
   have hj:j < (ps.length - k) * 4:=by
    have:=(List.getElem?_eq_some_iff.1 hu).1
    rwa [zqco,List.length_drop] at this
   have hq:j / 4 < ps.length - k:=by omega
   rw [show j = j / 4 * 4 + j % 4 by omega,zqcn _ _ _ (by rw [List.length_drop]; exact hq) (Nat.mod_lt _ (by decide)),List.getElem_drop] at hu
   have:=World.ownsRow.cellAt ho ((k + j / 4) * 4 + j % 4) (by omega)
   rw [zqcn _ _ _ (by omega) (Nat.mod_lt _ (by decide)),hu] at this
   rw [show k * 4 + j = (k + j / 4) * 4 + j % 4 by omega]
   exact this
theorem zxai {w:World} {a:Option Addr} {cap l h:Nat} (hh:h ≤ cap) (hs:∃ i,Tryz.prog.info? 38 = some i ∧ i.size = 4):(Instr.slice 28 (.slice a l cap) none (some (.int .i64 h)) none).run Tryz.prog w = .ok (.slice a h cap) w:=by
 obtain ⟨i,hi,hs⟩:=hs;simp [Instr.slice,run_underlying Tryz.underlying28,Instr.sliceBounds,Instr.sliceBound,asIntOf,sizeOf,typeInfo,hi,hh,go_sem]
theorem CsRow.head {B n cap k:Nat} {w:World} {a:Option Addr} {ps:List (Value × Value × Ce)} (h:CsRow B w (.slice a n cap) ps) (hk:k ≤ ps.length) :
  (∀ w',(Instr.slice 28 (.slice a n cap) none (some (.int .i64 k)) none).run Tryz.prog w' = .ok (.slice a k cap) w') ∧ ReadC w (.slice a k cap) (ps.take k):=by
 have ho:=h.o;have hone:=zxab (w:=w) (ps:=ps.take k) fun p hp => (h.m p (List.mem_of_mem_take hp)).mem
 obtain ⟨a',c',e⟩:=h.any;injection e with e1 e2 e3;subst e1 e2 e3;have hlt:(ps.take k).length = k:=List.length_take_of_le hk;rcases ho.2 with ⟨e,h0⟩ | ⟨g,cap',cur,e,-,-,hc1,-⟩
 ·injection e with e1 e2 e3;subst e1 e3;obtain rfl:k = 0:=by omega
  exact ⟨fun w' => zxai (by omega) size4,⟨_,_,rfl,.inl ⟨rfl,rfl⟩⟩,hone⟩
 ·injection e with e1 e2 e3;subst e1 e3;refine ⟨fun w' => zxai (by omega) size4,⟨_,_,by rw [hlt],.inr ⟨g,0,rfl,fun j u hu => ?_⟩⟩,hone⟩
  have hj:j < k * 4:=by
   have:=(List.getElem?_eq_some_iff.1 hu).1
   rwa [zqco,hlt] at this
  have hq:j / 4 < k:=by omega
  rw [show j = j / 4 * 4 + j % 4 by omega,zqcn _ _ _ (by rw [hlt]; exact hq) (Nat.mod_lt _ (by decide)),List.getElem_take] at hu
  have:=World.ownsRow.cellAt ho (j / 4 * 4 + j % 4) (by omega)
  rw [zqcn _ _ _ (by omega) (Nat.mod_lt _ (by decide)),hu] at this
  rw [show 0 + j = j / 4 * 4 + j % 4 by omega]
  exact this
theorem zxba (w:World) (ty:TypeId) (base:Nat) (v v2:Value) (ps qs:List (Value × Value × Ce)) (hown:RowC w base v ps) (hv2:ReadC w v2 qs) (hl:ps.length + qs.length ≤ 1000000) (hbase:base ≤ w.heap.size) :
  ∃ v' w',(Builtin.append_ #[28,28] ty #[v,v2]).run Tryz.prog w = .ok v' w' ∧ RowC w' base v' (ps ++ qs) ∧ w.grownBy w' v.ownBlock:=by
 obtain ⟨i0,hi,hz0,hz1,hz2⟩:=info_parts Tryz.infoCell;have:=zqma (P:=Tryz.prog) w base 28 ty 38 i0 CZ 4 64 Tryz.underlying28 hi hz0 hz1 hz2 zqo5 (by decide) v v2 ps.length qs.length (cellsC ps) (cellsC qs) hown hv2.1 (zqco qs) hv2.2 (by unfold maxLen; omega) (by omega) hbase
 rw [← zqdk,← List.length_append] at this;exact this
theorem zxak (w:World) {ops:Array Oper} {rest:List Oper} {o:Oper} {a:Act} {Q:Exit → Act → World → Prop} (hw:Region.wanted o (yielded ops a.tmps) = true) (s x:Operand)
  (ho:o.op = .call { callee:=.builtin .append,args:=#[s,x],argTypes:=#[28,28] }) (base:Nat) (v v2:Value) (ps qs:List (Value × Value × Ce)) (hs:a.eval s = v) (hx:a.eval x = v2) (hown:RowC w base v ps) (hv2:ReadC w v2 qs) (hl:ps.length + qs.length ≤ 1000000) (hbase:base ≤ w.heap.size)
  (h:∀ v' w',RowC w' base v' (ps ++ qs) → w.grownBy w' v.ownBlock → wpList Tryz.prog ops Q rest (a.put o.dst v') w'):wpList Tryz.prog ops Q (o :: rest) a w :=
 BigFrame.wpList_want hw fun _ hK => by
  obtain ⟨v',w',hrun,r1,r2⟩:=zxba w o.type base v v2 ps qs hown hv2 hl hbase;unfold Oper.wp;simp [execOp,ho,resolve,invoke,builtin,hs,hx,hrun,Result.andThen];exact hK _ _ (h v' w' r1 r2)
theorem zxac (w:World) {ops:Array Oper} {o:Oper} {a:Act} {K:Act → World → Prop} {E:Prop} (hgd:o.guard = none) (s x:Operand)
  (ho:o.op = .call { callee:=.builtin .append,args:=#[s,x],argTypes:=#[28,28] }) (base:Nat) (v v2:Value) (ps qs:List (Value × Value × Ce)) (hs:a.eval s = v) (hx:a.eval x = v2) (hown:RowC w base v ps) (hv2:ReadC w v2 qs) (hl:ps.length + qs.length ≤ 1000000) (hbase:base ≤ w.heap.size)
  (h:∀ v' w',RowC w' base v' (ps ++ qs) → w.grownBy w' v.ownBlock → K (a.put o.dst v') w') {Q:Exit → Act → World → Prop} :
  if Region.wanted o (yielded ops a.tmps) = true then Oper.wp Tryz.prog o a w K Q else E:=by
 have hw:Region.wanted o (yielded ops a.tmps) = true:=by simp [Region.wanted,hgd]
 rw [if_pos hw];obtain ⟨v',w',hrun,r1,r2⟩:=zxba w o.type base v v2 ps qs hown hv2 hl hbase;unfold Oper.wp;simp [execOp,ho,resolve,invoke,builtin,hs,hx,hrun,Result.andThen];exact h v' w' r1 r2
theorem one15 (w:World) (p:Value × Value × Ce) (h:p.1.oneCell' = true ∧ p.2.1.oneCell' = true):ReadC (w.alloc (.cells #[.int .u64 p.2.2.key,.int .i64 p.2.2.cnt,p.1,p.2.1] 38)) (.slice (some ⟨w.heap.size,0,none⟩) 1 1) [p]:=by
 refine ⟨by simpa [cellsC] using zqtu w p,zxap fun q hq => ?_⟩
 obtain rfl:q = p:=by simpa using hq
 exact h
theorem zxan {w w1:World} {T:TypeId} (hg:(w.alloc (.cells #[] T)).grownBy w1 (Value.slice (some ⟨w.heap.size,0,none⟩) 0 0).ownBlock):Below w.heap.size w w1:=by
 refine (zqab w (.cells #[] T)).grown hg (by simp) fun k hk => ?_
 have:w.heap.size = k:=by simpa [Value.ownBlock] using hk
 omega
theorem zxbs {B B' n:Nat} {W w7:World} {v:Value} {xs:List Value} {o:Obj} (ho:W.ownsRow B' 38 4 v n xs) (hB:B ≤ B') (hs:B ≤ W.heap.size) (hg:(W.alloc o).drew.grownBy w7 v.ownBlock):Keeps B W w7 :=
 (zqag hs (zqab W o)).trans (zqhn (zqaj ho (zqab W o)) hB (Nat.le_trans hs (zqab W o).size) zqic ⟨hg.os,hg.tape,hg.output,hg.size,hg.block⟩)
theorem zxay {B:Nat} (W:World) (hB:B ≤ W.heap.size):RowC (W.alloc (.cells #[] 38)) B (.slice (some ⟨W.heap.size,0,none⟩) 0 0) []:=World.ownsRow_lit W #[] 0 hB (by decide) rfl
theorem RowC.drew {w:World} {B:Nat} {v:Value} {ps:List (Value × Value × Ce)} (h:RowC w B v ps):RowC w.drew B v ps:=h
theorem ReadC.drew {w:World} {v:Value} {ps:List (Value × Value × Ce)} (h:ReadC w v ps):ReadC w.drew v ps:=h.below (Below.refl _ _).drew
end Go.Proofs.YtmnbljijnbhghaaGreatDoor
