/- Contracts that the law leans on: Cemq Cemr Celh. -/
import Derived.Deep.AppendLies
import Derived.Deep.RegionHeld3
import Derived.BigQuiet
import Derived.Deep.QuietTactic
import Derived.Lib.ItoaNum
import Derived.OwnWalk
import Derived.Deep.RegionLawGrows
import Derived.Laws.FloatArith
import Derived.WalkLawsBesides
import Derived.Laws.Externs
import Derived.Laws.BitsAllLaws
import Derived.Lib.Hide
import Derived.Shelf.Spec.TrailingZeros
import Derived.Laws.Bits64b
import Derived.Lib.BitFns
import Derived.Lib.Small
import Derived.Lib.Strings
import Derived.Lib.Slices
import Derived.Lib.Walk
import Derived.WalkKit
import Derived.WalkSpells
import Derived.WalkSmall
import Derived.Laws.Bits64
import Derived.Deep.Draws
import Derived.Deep.DeepCutAuto
import Derived.Laws.BytesArg
import Derived.Deep.LoopGhost
import Derived.Deep.RegionLaw
import Derived.Outline
import Derived.Deep.RegionWith
import Derived.RegionTactic
import Derived.ChangeAlike
import Derived.Laws.IdiomStrings
import Derived.ProofKit
import Derived.LaidMore
import Derived.OpenShut
import Derived.Stop.Joined
import Derived.Lib.LaidTab
import Derived.ChangeSlices
import Derived.Deep.CutBlock
import Derived.Deep.RegionHeld
import Derived.Deep.DrawnRows
import Derived.Lib.AppendZeros
import Derived.Maps.OwnSet
import Derived.Below
import Derived.SliceStrings
import Derived.Deep.CutRange
import Derived.Deep.Slices
import Derived.Deep.Fields
import Derived.ChangeSame
import Derived.Lib.SmallJoins
import Derived.Lib.Bytealg
import Derived.Lib.ConvBytes
import Derived.Laws.CopyRow
import Derived.Laws.IdiomCopy
import Derived.Laws.OwnMore
import Derived.Laws.MakeOwn
import Derived.Maps.Ext
import Derived.Maps.RangeWalk
import Derived.Sort.OwnSorted
import Derived.Shelf.SlSortCmp.WholeK
import Derived.Shelf.SlSortCmp.NoneTotal
import Derived.Test.YtmnbljijnbhghaaGreatDoorProg
import Derived.Test.YtmnbljijnbhghaaGreatDoorRows
import Derived.Test.YtmnbljijnbhghaaGreatDoorPm01
import Derived.Test.YtmnbljijnbhghaaGreatDoorPm02
import Derived.Test.YtmnbljijnbhghaaGreatDoorPm03
import Derived.Test.YtmnbljijnbhghaaGreatDoorPt01
import Derived.Test.YtmnbljijnbhghaaGreatDoorPt02
import Derived.Test.YtmnbljijnbhghaaGreatDoorPt03
import Derived.Test.YtmnbljijnbhghaaGreatDoorPt04
import Derived.Test.YtmnbljijnbhghaaGreatDoorPt05
import Derived.Test.YtmnbljijnbhghaaGreatDoorPt06
import Derived.Test.YtmnbljijnbhghaaGreatDoorPt07
import Derived.Test.YtmnbljijnbhghaaGreatDoorPt08
import Derived.Test.YtmnbljijnbhghaaGreatDoorPt09
import Derived.Test.YtmnbljijnbhghaaGreatDoorPt10
import Derived.Test.YtmnbljijnbhghaaGreatDoorPt11
import Derived.Test.YtmnbljijnbhghaaGreatDoorPt12
import Derived.Test.YtmnbljijnbhghaaGreatDoorPt13
import Derived.Test.YtmnbljijnbhghaaGreatDoorPt14
import Derived.Test.YtmnbljijnbhghaaGreatDoorPt15
import Derived.Test.YtmnbljijnbhghaaGreatDoorPt16
import Derived.Test.YtmnbljijnbhghaaGreatDoorPt17
import Derived.Test.YtmnbljijnbhghaaGreatDoorPt18
import Derived.Test.YtmnbljijnbhghaaGreatDoorPt19
import Derived.Test.YtmnbljijnbhghaaGreatDoorPt20
import Derived.Test.YtmnbljijnbhghaaGreatDoorPt21
import Derived.Test.YtmnbljijnbhghaaGreatDoorPt22
import Derived.Test.YtmnbljijnbhghaaGreatDoorPt23
import Derived.Test.YtmnbljijnbhghaaGreatDoorPt24
import Derived.Test.YtmnbljijnbhghaaGreatDoorPt25
import Derived.Test.YtmnbljijnbhghaaGreatDoorPt26
import Derived.Test.YtmnbljijnbhghaaGreatDoorPt27
import Derived.Test.YtmnbljijnbhghaaGreatDoorPt28
import Derived.Test.YtmnbljijnbhghaaGreatDoorPt29
import Derived.Test.YtmnbljijnbhghaaGreatDoorPt30
import Derived.Test.YtmnbljijnbhghaaGreatDoorPt31
import Derived.Test.YtmnbljijnbhghaaGreatDoorPt32
import Derived.Test.YtmnbljijnbhghaaGreatDoorPt33
namespace Go.Proofs.YtmnbljijnbhghaaGreatDoor
set_option maxRecDepth 100000
open Go.RowKit
set_option linter.unusedVariables false
theorem zxb2 {l:List Ce} {key:Int} {k:Nat} (hk:k < l.length) (h:(cg l k).key = key) (h0:∀ j,j < k → (cg l j).key ≠ key):lookC l key = some (cg l k):=by
 unfold lookC;rw [List.find?_eq_some_iff_getElem];refine ⟨decide_eq_true h,k,hk,(zqat hk).symm,fun j hj => ?_⟩
 have:=h0 j hj;rw [zqat (by omega)] at this
 simpa using this
theorem zxbc (l:List Ce) (key:Int):(hasC l key = -1 ∧ lookC l key = none) ∨ ∃ k:Nat,k < l.length ∧ hasC l key = k ∧ lookC l key = some (cg l k) ∧ (cg l k).key = key:=by
 by_cases h:∃ k,k < l.length ∧ (cg l k).key = key
 ·have hm:∃ k,(k < l.length ∧ (cg l k).key = key) ∧ ∀ j,j < k → ¬ (j < l.length ∧ (cg l j).key = key):=by
   obtain ⟨k,hk⟩:=h
   induction k using Nat.strongRecOn with
   | _ k ih =>
    by_cases q:∃ j,j < k ∧ j < l.length ∧ (cg l j).key = key
    ·obtain ⟨j,hj,h2⟩:=q;exact ih j hj h2
    ·exact ⟨k,hk,fun j hj h2 => q ⟨j,hj,h2⟩⟩
  obtain ⟨k,⟨h1,h2⟩,h3⟩:=hm;have h0:∀ j,j < k → (cg l j).key ≠ key:=fun j hj e => h3 j hj ⟨by omega,e⟩
  exact .inr ⟨k,h1,zqyo h1 h2 h0,zxb2 h1 h2 h0,h2⟩
 ·have h0:∀ j,j < l.length → (cg l j).key ≠ key:=fun j hj e => h ⟨j,hj,e⟩
  refine .inl ⟨zqyp h0,zxas fun c hc e => ?_⟩
  obtain ⟨i,hi,rfl⟩:=List.getElem_of_mem hc;exact h0 i hi (by rw [zqat hi]; exact e)
theorem zxae {l:List Ce} {k:Nat} (h:k < l.length):l.drop k = cg l k :: l.drop (k + 1):=by rw [List.drop_eq_getElem_cons h,zqat h]
theorem zxb6 (b:List Ce):∀ a:List Ce,(oneC a b).1 ≠ 0 → (oneC a b).2 = []
 | [],h => absurd rfl h
 | x :: a,h => by
  have hc:∀ z r,(consE z r).1 ≠ 0 → (consE z r).2 = []:=fun z r h => by
   unfold consE at h ⊢
   by_cases e:r.1 = 0
   ·rw [if_pos e] at h; exact absurd rfl h
   ·rw [if_neg e]
  unfold oneC at h ⊢;cases hl:lookC b x.key with
  | none =>
   rw [hl] at h;exact hc _ _ h
  | some y =>
   rw [hl] at h
   dsimp only at h ⊢
   by_cases e:errJ x y = 0
   ·rw [if_pos e] at h ⊢;exact hc _ _ h
   ·rw [if_neg e]
theorem zxb5 {a b acc:List Ce} {k:Nat} {R:Nat × List Ce} (h:R = preE acc (oneC (a.drop k) b)) (hk:k < a.length) (hl:lookC b (cg a k).key = none):R = preE (acc ++ [cg a k]) (oneC (a.drop (k + 1)) b):=by
 rw [zxae hk,oneC,hl] at h;rw [h];exact zxaj
theorem zxb7 {a b acc:List Ce} {k i:Nat} {R:Nat × List Ce} (h:R = preE acc (oneC (a.drop k) b)) (hk:k < a.length) (hl:lookC b (cg a k).key = some (cg b i)) (he:errJ (cg a k) (cg b i) = 0):R = preE (acc ++ [joinC (cg a k) (cg b i)]) (oneC (a.drop (k + 1)) b):=by
 rw [zxae hk,oneC,hl] at h
 dsimp only at h
 rw [if_pos he] at h;rw [h];exact zxaj
theorem zxb4 {a b acc:List Ce} {k i:Nat} {R:Nat × List Ce} (h:R = preE acc (oneC (a.drop k) b)) (hk:k < a.length) (hl:lookC b (cg a k).key = some (cg b i)) (he:¬ errJ (cg a k) (cg b i) = 0):R = (errJ (cg a k) (cg b i),[]):=by
 rw [zxae hk,oneC,hl] at h
 dsimp only at h
 rw [if_neg he] at h;rw [h];unfold preE;rw [if_neg he]
theorem zxb3 {a b acc:List Ce} {R:Nat × List Ce} (h:R = preE acc (oneC (a.drop a.length) b)):R = (0,acc):=by
 rw [List.drop_length] at h;rw [h];show preE acc (0,[]) = _
 unfold preE;rw [if_pos rfl,List.append_nil]
theorem zxb1 {a:List Ce} {b:List Ce} {k:Nat} (hk:k < b.length) (hl:lookC a (cg b k).key = none):restC a (b.drop k) = cg b k :: restC a (b.drop (k + 1)):=by
 unfold restC;rw [zxae hk,List.filter_cons_of_pos];rw [hl]; rfl
theorem zxb8 {a:List Ce} {b:List Ce} {k:Nat} {x:Ce} (hk:k < b.length) (hl:lookC a (cg b k).key = some x):restC a (b.drop k) = restC a (b.drop (k + 1)):=by
 unfold restC;rw [zxae hk,List.filter_cons_of_neg];rw [hl]; simp
structure RestS (a b:List Ce) (R:Nat × List Ce) (k:Nat) (acc:List Ce):Prop where
 f:R = (0,(restC a (b.drop k)).foldl insC acc)
 n:∀ x ∈ acc,∀ y ∈ restC a (b.drop k),x.key ≠ y.key
 v:∀ x ∈ acc,Sv 2 x
 l:acc.length ≤ a.length + k
theorem RestS.skip {a b:List Ce} {R:Nat × List Ce} {k:Nat} {acc:List Ce} {x:Ce} (h:RestS a b R k acc) (hk:k < b.length) (hl:lookC a (cg b k).key = some x):RestS a b R (k + 1) acc:=by
 have e:=zxb8 hk hl;have h1:=h.f;have h2:=h.n;rw [e] at h1 h2;exact ⟨h1,h2,h.v,by have:=h.l; omega⟩
theorem RestS.next {a b:List Ce} {R:Nat × List Ce} {k:Nat} {acc:List Ce} (h:RestS a b R k acc) (hr:risingC b) (hk:k < b.length) (hs:Sv 1 (cg b k)) (hl:lookC a (cg b k).key = none):(withL acc (cg b k)).1 = 0 ∧ RestS a b R (k + 1) (withL acc (cg b k)).2:=by
 have e:=zxb1 hk hl;have h1:=h.f;have h2:=h.n;rw [e] at h1 h2;obtain ⟨q1,q2⟩:=zqkn (l:=acc) (c:=cg b k) fun x hx => h2 x hx _ (List.mem_cons_self ..)
 refine ⟨q1,h1,fun x hx y hy => ?_,fun x hx => ?_,?_⟩
 ·rcases (q2 x).1 hx with rfl | hx
  ·have h3:=(zxaa hy).1;have h4:=zqaz (show risingC (cg b k :: b.drop (k + 1)) from by rw [← zxae hk]; exact List.Pairwise.drop hr) y h3
   omega
  ·exact h2 x hx y (List.mem_cons_of_mem _ hy)
 ·rcases (q2 x).1 hx with rfl | hx
  ·exact hs.mono (by omega)
  ·exact h.v x hx
 ·have:=zqn1 acc (cg b k);have:=h.l;omega
theorem RestS.end {a b:List Ce} {R:Nat × List Ce} {acc:List Ce} (h:RestS a b R b.length acc):R = (0,acc):=by
 have:=h.f;rw [List.drop_length] at this;exact this
theorem RestS.start {a b acc:List Ce} (h:oneC a b = (0,acc)) (hv:∀ x ∈ acc,Sv 2 x) (hl:acc.length = a.length):RestS a b (twoC a b) 0 acc:=by
 refine ⟨?_,fun x hx y hy => ?_,hv,by omega⟩
 ·unfold twoC;rw [h,if_pos rfl]
  rfl
 ·have h1:(oneC a b).1 = 0:=by rw [h]
  have h2:x ∈ (oneC a b).2:=by rw [h]; exact hx
  obtain ⟨z,hz,e⟩:=zxad h1 h2;rw [← e];exact (zxaa hy).2 z hz
theorem zxbf {w:World} {K j:Nat} {k n:Int} {I N:Value} (hj:j ≠ K):(set4 w K k n I N).heap[j]? = w.heap[j]?:=by
 simp [World.setCell,Array.getElem?_modify,Ne.symm hj]
theorem zxbv {w:World} {K B E sz n:Nat} {k' n':Int} {I N v:Value} {xs:List Value} (h:w.ownsRow B E sz v n xs) (hne:v.ownBlock ≠ some K):(set4 w K k' n' I N).ownsRow B E sz v n xs:=by
 refine ⟨h.1,h.2.imp id ?_⟩;rintro ⟨g,cap,cur,rfl,h1,h2,h3⟩;have hg:g ≠ K:=fun e => hne (by rw [e]; rfl)
 exact ⟨g,cap,cur,rfl,h1,by rw [zxbf hg]; exact h2,h3⟩
def MergR (w:World) (R:Nat × List Ce) (e:Ending) (w':World):Prop:=∃ r ps,e = .returned (.tuple #[r,.int .i64 R.1]) ∧ RdR w' r ps ∧ ps.map cellOf = R.2 ∧ Below w.heap.size w w'
theorem zxat {w w':World} {n:Nat} (hb:Below w.heap.size w w'):MergR w (n,[]) (.returned (.tuple #[.slice none 0 0,.int .i64 n])) w':=⟨_,[],rfl,RdR.nil _,rfl,hb⟩
set_option maxHeartbeats 16000000 in
theorem zxbe (w:World) (u v:Value) (a b:List Ce) (ha:Cells w u a) (hb:Cells w v b) (sa:∀ c ∈ a,Sv 1 c) (sb:∀ c ∈ b,Sv 1 c) (hla:a.length ≤ 900) (hlb:b.length ≤ 900) :
  Calls Tryz.prog 26 #[u,v] w (MergR w (mergeE a b)):=by
 obtain ⟨i0,hi,hz0,hz1,hz2⟩:=info_parts Tryz.infoCell;have HRa:=zh (fun w1 (h1:Below w.heap.size w w1) => zqhq w1 u a (ha.below h1))
 have HRb:=zh (fun w1 (h1:Below w.heap.size w w1) => zqhq w1 v b (hb.below h1))
 obtain ⟨pu,cu,rfl,-⟩:=id ha;obtain ⟨pv,cv,rfl,-⟩:=id hb
 by_cases hra:risingB a = true
 rotate_left
 ·have hE:mergeE a b = (1,[]):=by unfold mergeE; rw [if_neg (fun q => hra q.1)]
  rw [hE];rw [eq_false_of_ne_true hra] at HRa;clear hE ha hb sa sb hra HRb;go_enter Tryz.func26,Tryz.ntmps26;go_wp2_with fail;refine (HRa.out _ (Below.refl _ _)).mono ?_; rintro e w1 ⟨rfl,hb1⟩;have HB1:=zh hb1;clear hb1;go_wp2_with fail;go_ret2;exact zxat HB1.out
 by_cases hrb:risingB b = true
 rotate_left
 ·have hE:mergeE a b = (1,[]):=by unfold mergeE; rw [if_neg (fun q => hrb q.2)]
  rw [hE];rw [hra] at HRa;rw [eq_false_of_ne_true hrb] at HRb;clear hE ha hb sa sb hra hrb;go_enter Tryz.func26,Tryz.ntmps26;go_wp2_with fail;refine (HRa.out _ (Below.refl _ _)).mono ?_; rintro e w1 ⟨rfl,hb1⟩;have HB1:=zh hb1;clear hb1;go_wp2_with fail;refine (HRb.out _ HB1.out).mono ?_; rintro e w2 ⟨rfl,hb1⟩;have HB2:=zh (zqaa HB1.out hb1);clear hb1;go_wp2_with fail;go_ret2;exact zxat HB2.out
 rw [zxbl hra hrb];rw [hra] at HRa;rw [hrb] at HRb;have HRc:=zh (zxaq.1 hrb);have HCa:=zh ha;have HCb:=zh hb;have HHb:=zh (fun w1 key (h1:Below w.heap.size w w1) => zq0e w1 _ b key (hb.below h1))
 have HHa:=zh (fun w1 key (h1:Below w.heap.size w w1) => zq0e w1 _ a key (ha.below h1))
 have HSa:=zh (fun k (hk:k < a.length) => show Sv 1 (cg a k) from by rw [zqat hk]; exact sa _ (List.getElem_mem hk))
 have HSb:=zh (fun k (hk:k < b.length) => show Sv 1 (cg b k) from by rw [zqat hk]; exact sb _ (List.getElem_mem hk))
 have HLb:=zh (fun key => zxbc b key)
 have HLa:=zh (fun key => zxbc a key)
 have HJn:=zh (fun w1 x y I N I' N' (hx:CeM w1 I N x) (hy:CeM w1 I' N' y) (sx:Sv 1 x) (sy:Sv 1 y) => show Calls Tryz.prog 42 #[CeV x I N,CeV y I' N'] w1 fun e w' => ∃ I3 N3,e = .returned (.tuple #[CeV (joinC x y) I3 N3,.int .i64 (errJ x y)]) ∧ CeOwn w' w1.heap.size I3 N3 (joinC x y) ∧ Below w1.heap.size w1 w' from by
  refine (zqov w1 x y _ _ _ _ hx hy sx.ref.1 sy.ref.1 sx.ref.2 sy.ref.2).mono ?_;rintro e w2 ⟨z,I3,N3,rfl,h2,h3,h4,h5⟩;obtain rfl:=zqh6 h3 h4;exact ⟨I3,N3,rfl,h2,h5⟩)
 have HN1:=zh (fun k acc R (h:R = preE acc (oneC (a.drop k) b)) (hk:k < a.length) hl => zxb5 h hk hl)
 have HN2:=zh (fun k i acc R (h:R = preE acc (oneC (a.drop k) b)) (hk:k < a.length) hl he => @zxb7 a b acc k i R h hk hl he)
 have HN3:=zh (fun k i acc R (h:R = preE acc (oneC (a.drop k) b)) (hk:k < a.length) hl he => @zxb4 a b acc k i R h hk hl he)
 have HN4:=zh (fun acc R (h:R = preE acc (oneC (a.drop a.length) b)) => zxb3 h)
 have HTw:=zh (show twoC a b = if (oneC a b).1 = 0 then (0,(restC a b).foldl insC (oneC a b).2) else ((oneC a b).1,[]) from rfl)
 have HSt:=zh (fun acc (h:oneC a b = (0,acc)) hv hl => @RestS.start a b acc h hv hl)
 have H0:=zh (show oneC a b = preE (([]:List (Value × Value × Ce)).map cellOf) (oneC (a.drop 0) b) from by
  rw [List.drop_zero];refine (pre_nil fun h => ?_).symm
  exact zxb6 b a h)
 have HWt:=zh (fun w1 v1 ps c I N (hr:RdR w1 v1 ps) (hc:CeM w1 I N c) (wc:Sv 1 c) (wm:∀ p ∈ ps,Sv 2 p.2.2) (hl:ps.length ≤ 100000) => zxbo w1 v1 ps c I N hr hc wc.ref (fun p hp => (wm p hp).ref) hl)
 clear ha hb sa sb hra hrb;generalize twoC a b = T at *;generalize oneC a b = R at *;go_enter Tryz.func26,Tryz.ntmps26;go_wp2_with fail;refine (HRa.out _ (Below.refl _ _)).mono ?_; rintro e w1 ⟨rfl,hb1⟩;have HB1:=zh hb1;clear hb1;go_wp2_with fail;refine (HRb.out _ HB1.out).mono ?_; rintro e w2 ⟨rfl,hb1⟩;have HB2:=zh (zqaa HB1.out hb1);clear hb1 HB1 HRa HRb;go_wp2_with fail;go_loopw [7,6] (fun iv ov wr => ∃ (k:Nat) (ps:List (Value × Value × Ce)) (oa:Option Addr) (oc:Nat),k ≤ a.length ∧ iv = .int .i64 k ∧ ov = .slice oa ps.length oc ∧ Hid (ps.length = k) ∧ Hid (CsRow w.heap.size wr ov ps ∧ Below w.heap.size w wr) ∧ Hid (∀ p ∈ ps,Sv 2 p.2.2) ∧ Hid (R = preE (ps.map cellOf) (oneC (a.drop k) b))) (fun iv _ _ => a.length - (intOf iv).toNat)
 case atStart => exact ⟨0,[],none,0,Nat.zero_le _,rfl,rfl,zh rfl,zh ⟨CsRow.nil _ _,HB2.out⟩,zh (fun p hp => nomatch hp),H0⟩
 case round =>
  obtain ⟨k,ps,oa,oc,hk,rfl,rfl,HPl,HO,HV,HR⟩:=hrel;clear HB2 H0
  by_cases hlt:k < a.length
  ·have hlt':(k:Int) < (a.length:Int):=by omega
   obtain ⟨ba,of,rfl,-,I,N,hx0⟩:=HCa.out.at hlt;have HCx:=zh (zqsf hx0.m);obtain ⟨⟨qi,ki,rfl⟩,qn,kn,rfl⟩:=hx0.m.slices;have HMx:=zh (hx0.m.below HO.out.2);have c0:=cell_later HO.out.2 hx0.c0;have c1:=cell_later HO.out.2 hx0.c1;have c2:=cell_later HO.out.2 hx0.c2;have c3:=cell_later HO.out.2 hx0.c3;have hsx:=HSa.out k hlt;have hsz:=HO.out.2.size;have hpk:ps.length ≤ 900:=by have:=HPl.out; omega
   have HHk:=zh (HHb.out wr (cg a k).key HO.out.2);have hX1:=HN1.out k _ R HR.out hlt;have hX2:=fun i => HN2.out k i _ R HR.out hlt
   have hX3:=fun i => HN3.out k i _ R HR.out hlt
   clear hx0 HR HN1 HN2 HN3;rcases HLb.out (cg a k).key with ⟨hh,hlk⟩ | ⟨i,hib,hh,hlk,-⟩
   ·rw [hh] at HHk;have HR2:=zh (hX1 hlk);clear hX1 hX2 hX3 hh hlk;generalize cg a k = x at *;have HS2:=zh (show ∀ p ∈ ps ++ [(Value.slice qi x.is.length ki,Value.slice qn x.ns.length kn,x)],Sv 2 p.2.2 from fun p hp => by
     rcases List.mem_append.1 hp with h | h
     ·exact HV.out p h
     ·obtain rfl:=List.mem_singleton.1 h;exact hsx.mono (by decide))
    have hal:=zqab wr (CeO x (.slice qi x.is.length ki) (.slice qn x.ns.length kn));have HR3:=zh (HO.out.1.below hsz hal);have HB3:=zh (zqaa HO.out.2 hal);have HCS:=zh (HCx.out.keep ((zqag (Nat.le_refl _) HO.out.2).trans (zqag hsz hal)));have hsz3:=HB3.out.size;have HA1:=zh (heap_alloc_new wr (CeO x (.slice qi x.is.length ki) (.slice qn x.ns.length kn)));clear hal HCx HMx hsx;go_wp2_with fail;refine HHk.out.mono ?_; rintro e w3 ⟨rfl,rfl⟩;clear HHk;go_upto_region 9 with fail;clear c0 c1 c2 c3 hsz HO;generalize hW1:w3.alloc (CeO x (.slice qi x.is.length ki) (.slice qn x.ns.length kn)) = W1 at *;generalize w3.heap.size = P1 at *;clear hW1;obtain ⟨y0,y1,y2,y3⟩:=row4 HA1.out;go_wp2_with (at_builtin; refine zqbd _ (by rfl) _ _ 28 rfl w.heap.size 38 i0 CZ 4 64 Tryz.underlying28 hi hz0 hz1 hz2 zqo5 (by decide) _ _ ps.length 1 (cellsC ps) (rowC (.slice qi x.is.length ki,.slice qn x.ns.length kn,x)) rfl rfl (zqaj HR3.out.o (zqab _ _)) (zqtu W1 (.slice qi x.is.length ki,.slice qn x.ns.length kn,x)) rfl (zxag HCS.out.mem) (by unfold maxLen; omega) (by omega) (by have:=hsz3; simp; omega) ?_; intro v' w4 hown hgrow; have HR4:=zh (zxah HR3.out HB3.out hsz3 HCS.out hown hgrow); obtain ⟨pv',cv',rfl⟩:=zqae hown; clear hown hgrow)
    go_roundw
    case rel => exact ⟨k + 1,ps ++ [(.slice qi x.is.length ki,.slice qn x.ns.length kn,x)],pv',cv',by omega,by go_num,by rw [List.length_append]; rfl,zh (by rw [List.length_append]; show ps.length + 1 = _; have:=HPl.out; omega),HR4,HS2,zh (by rw [List.map_append]; exact HR2.out)⟩
    case measure => simp [intOf]; omega
   ·rw [hh] at HHk;obtain ⟨bb,ob,rfl,-,I',N',hy0⟩:=HCb.out.at hib;obtain ⟨⟨ri,li,rfl⟩,rn,ln,rfl⟩:=hy0.m.slices;have HMy:=zh (hy0.m.below HO.out.2);have d0:=cell_later HO.out.2 hy0.c0;have d1:=cell_later HO.out.2 hy0.c1;have d2:=cell_later HO.out.2 hy0.c2;have d3:=cell_later HO.out.2 hy0.c3;have hsy:=HSb.out i hib;have hib':(i:Int) < (b.length:Int):=by omega
    have hi0:¬ (i:Int) < 0:=by omega
    have hi1:(0:Int) ≤ (i:Int):=by omega
    have HX2:=zh (fun he => hX2 i hlk he)
    have HX3:=zh (fun he => hX3 i hlk he)
    clear hX1 hX2 hX3 hh hlk hy0 hib;generalize cg a k = x at *;generalize cg b i = y at *;have HSj:=zh (fun (he:errJ x y = 0) => show ∀ p ∈ ps,Sv 2 p.2.2 ∧ Sv 2 (joinC x y) from fun p hp => ⟨HV.out p hp,zqzm hsx hsy (by decide) he⟩)
    have HSj2:=zh (fun (he:errJ x y = 0) => show Sv 2 (joinC x y) from zqzm hsx hsy (by decide) he)
    have hal0:=zqab wr (CeO x (.slice qi x.is.length ki) (.slice qn x.ns.length kn));have HJk:=zh (fun w1 (h1:Below (wr.alloc (CeO x (.slice qi x.is.length ki) (.slice qn x.ns.length kn))).heap.size (wr.alloc (CeO x (.slice qi x.is.length ki) (.slice qn x.ns.length kn))) w1) => HJn.out w1 x y _ _ _ _ (HMx.out.below (zqaa hal0 h1)) (HMy.out.below (zqaa hal0 h1)) hsx hsy)
    have HR3:=zh (HO.out.1.below hsz hal0);have HB3:=zh (zqaa HO.out.2 hal0);have HNe:=zh (zxbd HO.out.1.o);have HA1:=zh (heap_alloc_new wr (CeO x (.slice qi x.is.length ki) (.slice qn x.ns.length kn)));have g0:=cell_later hal0 c0;have g1:=cell_later hal0 c1;have g2:=cell_later hal0 c2;have g3:=cell_later hal0 c3;have z0:=cell_later hal0 d0;have z1:=cell_later hal0 d1;have z2:=cell_later hal0 d2;have z3:=cell_later hal0 d3;clear hal0 HCx HMx HMy hsx hsy;go_wp2_with fail;refine HHk.out.mono ?_; rintro e w3 ⟨rfl,rfl⟩;clear HHk;go_upto_region 9 with fail;clear c0 c1 c2 c3 d0 d1 d2 d3 HO;generalize hV:w3.alloc (CeO x (.slice qi x.is.length ki) (.slice qn x.ns.length kn)) = V at *;generalize hP1:w3.heap.size = P1 at *;have hPV:P1 < V.heap.size:=by rw [← hV,← hP1]; simp
    clear hV hP1;go_upto_region 10 with fail;generalize joinC x y = j at *;generalize errJ x y = E at *;have hal:=zqab V.drew (.cells #[.int .u64 0,.int .i64 0,.slice none 0 0,.slice none 0 0] 38);have hal2:=zqab V (.cells #[.int .u64 0,.int .i64 0,.slice none 0 0,.slice none 0 0] 38);have a0:(V.drew.alloc (.cells #[.int .u64 0,.int .i64 0,.slice none 0 0,.slice none 0 0] 38)).cell? _ = _:=cell_later hal g0;have a1:(V.drew.alloc (.cells #[.int .u64 0,.int .i64 0,.slice none 0 0,.slice none 0 0] 38)).cell? _ = _:=cell_later hal g1;have a2:(V.drew.alloc (.cells #[.int .u64 0,.int .i64 0,.slice none 0 0,.slice none 0 0] 38)).cell? _ = _:=cell_later hal g2;have a3:(V.drew.alloc (.cells #[.int .u64 0,.int .i64 0,.slice none 0 0,.slice none 0 0] 38)).cell? _ = _:=cell_later hal g3;have b0:(V.drew.alloc (.cells #[.int .u64 0,.int .i64 0,.slice none 0 0,.slice none 0 0] 38)).cell? _ = _:=cell_later hal z0;have b1:(V.drew.alloc (.cells #[.int .u64 0,.int .i64 0,.slice none 0 0,.slice none 0 0] 38)).cell? _ = _:=cell_later hal z1;have b2:(V.drew.alloc (.cells #[.int .u64 0,.int .i64 0,.slice none 0 0,.slice none 0 0] 38)).cell? _ = _:=cell_later hal z2;have b3:(V.drew.alloc (.cells #[.int .u64 0,.int .i64 0,.slice none 0 0,.slice none 0 0] 38)).cell? _ = _:=cell_later hal z3;have c0:(V.alloc (.cells #[.int .u64 0,.int .i64 0,.slice none 0 0,.slice none 0 0] 38)).cell? _ = _:=cell_later hal2 g0;have c1:(V.alloc (.cells #[.int .u64 0,.int .i64 0,.slice none 0 0,.slice none 0 0] 38)).cell? _ = _:=cell_later hal2 g1;have c2:(V.alloc (.cells #[.int .u64 0,.int .i64 0,.slice none 0 0,.slice none 0 0] 38)).cell? _ = _:=cell_later hal2 g2;have c3:(V.alloc (.cells #[.int .u64 0,.int .i64 0,.slice none 0 0,.slice none 0 0] 38)).cell? _ = _:=cell_later hal2 g3;have d0:(V.alloc (.cells #[.int .u64 0,.int .i64 0,.slice none 0 0,.slice none 0 0] 38)).cell? _ = _:=cell_later hal2 z0;have d1:(V.alloc (.cells #[.int .u64 0,.int .i64 0,.slice none 0 0,.slice none 0 0] 38)).cell? _ = _:=cell_later hal2 z1;have d2:(V.alloc (.cells #[.int .u64 0,.int .i64 0,.slice none 0 0,.slice none 0 0] 38)).cell? _ = _:=cell_later hal2 z2;have d3:(V.alloc (.cells #[.int .u64 0,.int .i64 0,.slice none 0 0,.slice none 0 0] 38)).cell? _ = _:=cell_later hal2 z3;clear hal hal2;go_cut [10,11] from 40 to 51 (fun v8 v9 wx => ∃ (M:Nat) (p3 q3:Option Addr) (k3 l3:Nat),v8 = .pointer (some ⟨M,0,none⟩) ∧ v9 = .int .i64 E ∧ Hid (JAt V M j (.slice p3 j.is.length k3) (.slice q3 j.ns.length l3) wx))
    case first =>
     go_region_law (first
      | (go_simp; go_at_call 42; refine (HJk.out _ (by (repeat' first | exact Below.refl _ _ | refine Below.drew ?_ | refine Below.alloc ?_ (by first | exact Nat.le_refl _ | (simp; done) | (simp; omega)) _); done)).mono ?_; rintro e w3 ⟨I3,N3,rfl,hco,hb3⟩; obtain ⟨⟨p3,k3,rfl⟩,q3,l3,rfl⟩:=hco.slices; (first | (have hbW:Below V.heap.size V w3:=zqaw hb3) | (obtain ⟨hMz,hbW⟩:=zqm1 (W:=V) (w2:=w3) (cs:=#[.int .u64 0,.int .i64 0,.slice none 0 0,.slice none 0 0]) (T:=38) hb3; have zf:=zqav hMz; obtain ⟨zz0,zz1,zz2,zz3⟩:=row4 hMz) | (obtain ⟨hMz,hbW⟩:=zqm2 (W:=V) (w2:=w3) (cs:=#[.int .u64 0,.int .i64 0,.slice none 0 0,.slice none 0 0]) (T:=38) hb3; have zf:=zqav hMz; obtain ⟨zz0,zz1,zz2,zz3⟩:=row4 hMz))))
     all_goals
      go_wp2_with fail;go_meet
      first
       | (have h1:=zxa3 hMz hbW hco (by first | exact Nat.le_refl _ | (simp; done) | (simp; omega)); exact ⟨_,p3,q3,k3,l3,rfl,rfl,zh h1⟩)
       | (have h1:=zxa2 hbW hco (by first | exact Nat.le_refl _ | (simp; done) | (simp; omega)); exact ⟨_,p3,q3,k3,l3,rfl,rfl,zh h1⟩)
    case rest =>
     obtain ⟨M,p3,q3,k3,l3,rfl,rfl,hC⟩:=hcut;clear a0 a1 a2 a3 b0 b1 b2 b3 c0 c1 c2 c3 d0 d1 d2 d3 g0 g1 g2 g3 z0 z1 z2 z3 HJk
     by_cases hE:E = 0
     ·subst hE;have HR2:=zh (HX2.out rfl);have hsj:=HSj2.out rfl;have HS2:=zh (show ∀ p ∈ ps ++ [(Value.slice p3 j.is.length k3,Value.slice q3 j.ns.length l3,j)],Sv 2 p.2.2 from fun p hp => by
       rcases List.mem_append.1 hp with h | h
       ·exact HV.out p h
       ·obtain rfl:=List.mem_singleton.1 h;exact hsj)
      have hA2:=(hC.out.1.block P1 hPV).trans HA1.out;have hPw:w.heap.size ≤ P1:=by omega
      have hzf:=zqav hA2;obtain ⟨x0,x1,x2,x3⟩:=row4 hA2;obtain ⟨m0,m1,m2,m3⟩:=row4 hC.out.2.2.1;have hkk:Keeps w.heap.size wc (set4 wc P1 j.key j.cnt (.slice p3 j.is.length k3) (.slice q3 j.ns.length l3)):=zqcr hA2 hPw;have hCS0:CeS w.heap.size wc (.slice p3 j.is.length k3) (.slice q3 j.ns.length l3) j:=zqmn hC.out.2.2.2;have HCS:=zh (hCS0.keep hkk);have hsV:w.heap.size ≤ V.heap.size:=by omega
      have hrc:=HR3.out.below hsV hC.out.1;have HR3:=zh (show CsRow w.heap.size (set4 wc P1 j.key j.cnt (.slice p3 j.is.length k3) (.slice q3 j.ns.length l3)) (.slice oa ps.length oc) ps from ⟨zxbv hrc.o (fun e => by have:=HNe.out _ e; omega),fun p hp => (hrc.m p hp).keep hkk⟩)
      have HB3:=zh (show Below w.heap.size w (set4 wc P1 j.key j.cnt (.slice p3 j.is.length k3) (.slice q3 j.ns.length l3)) from zqao (zqaa HB3.out hC.out.1) hPw);have hsz3:=HB3.out.size;have HA3:=zh (zqan (k':=j.key) (n':=j.cnt) (I':=.slice p3 j.is.length k3) (N':=.slice q3 j.ns.length l3) hA2);clear hA2 hkk hCS0 hrc HX2 HX3 HSj HSj2 hC HNe HA1
      dsimp only [set4] at HR3 HB3 HCS HA3 hsz3
      go_upto_region 14 with fail;clear x0 x1 x2 x3 m0 m1 m2 m3 hzf;generalize (((wc.setCell ⟨P1,0,none⟩ (.int .u64 j.key)).setCell ⟨P1,1,none⟩ (.int .i64 j.cnt)).setCell ⟨P1,2,none⟩ (.slice p3 j.is.length k3)).setCell ⟨P1,3,none⟩ (.slice q3 j.ns.length l3) = W1 at *;obtain ⟨y0,y1,y2,y3⟩:=row4 HA3.out;go_wp2_with (at_builtin; refine zqbd _ (by rfl) _ _ 28 rfl w.heap.size 38 i0 CZ 4 64 Tryz.underlying28 hi hz0 hz1 hz2 zqo5 (by decide) _ _ ps.length 1 (cellsC ps) (rowC (.slice p3 j.is.length k3,.slice q3 j.ns.length l3,j)) rfl rfl (zqaj HR3.out.o (zqab _ _)) (zqtu W1 (.slice p3 j.is.length k3,.slice q3 j.ns.length l3,j)) rfl (zxag HCS.out.mem) (by unfold maxLen; omega) (by omega) (by have:=hsz3; simp; omega) ?_; intro v' w4 hown hgrow; have HR4:=zh (zxah HR3.out HB3.out hsz3 HCS.out hown hgrow); obtain ⟨pv',cv',rfl⟩:=zqae hown; clear hown hgrow)
      go_roundw
      case rel => exact ⟨k + 1,ps ++ [(.slice p3 j.is.length k3,.slice q3 j.ns.length l3,j)],pv',cv',by omega,by go_num,by rw [List.length_append]; rfl,zh (by rw [List.length_append]; show ps.length + 1 = _; have:=HPl.out; omega),HR4,HS2,zh (by rw [List.map_append]; exact HR2.out)⟩
      case measure => simp [intOf]; omega
     ·have hE':¬ (E:Int) = 0:=by omega
      obtain rfl:=HX3.out hE;have hT:T = (E,[]):=by rw [HTw.out,if_neg hE]
      subst hT;have HBc:=zh (zqaa HB3.out hC.out.1);clear HX2 HX3 HSj HSj2 hC HNe HA1 HR3 HB3 HTw HSt HN4;go_wp2_with fail;go_ret2;exact zxat HBc.out
  ·have hka:k = a.length:=by omega
   subst hka;have hlt':¬ (a.length:Int) < (a.length:Int):=by omega
   have hR:=HN4.out _ R HR.out;have HS0:=zh (HSt.out (ps.map cellOf) hR (fun x hx => by
    obtain ⟨p,hp,rfl⟩:=List.mem_map.1 hx;exact HV.out p hp) (by rw [List.length_map]; exact HPl.out))
   have HR0:=zh HO.out.1.rd;have HW0:=zh HO.out.2;clear hR HR HV HPl HO HN1 HN2 HN3 HN4 HTw HSt HJn HSa HHb HLb HCa hk;generalize hnp:ps.length = np at *;go_wp2_with fail;generalize decide ((a.length:Int) < (a.length:Int)) = b24 at *;go_loopw [12,6] (fun iv ov wr => ∃ (t:Nat) (qs:List (Value × Value × Ce)) (oa:Option Addr) (oc:Nat),t ≤ b.length ∧ iv = .int .i64 t ∧ ov = .slice oa qs.length oc ∧ Hid (RdR wr ov qs) ∧ Hid (RestS a b T t (qs.map cellOf)) ∧ Hid (Below w.heap.size w wr)) (fun iv _ _ => b.length - (intOf iv).toNat)
   case atStart => exact ⟨0,ps,_,_,Nat.zero_le _,rfl,by rw [hnp],HR0,HS0,HW0⟩
   case round =>
    obtain ⟨t,qs,oa,oc,ht,rfl,rfl,HO,HS,HW⟩:=hrel;clear HR0 HS0 HW0 hnp
    by_cases hltt:t < b.length
    ·have hltt':(t:Int) < (b.length:Int):=by omega
     obtain ⟨bb,ob,rfl,-,I',N',hy0⟩:=HCb.out.at hltt;obtain ⟨⟨ri,li,rfl⟩,rn,ln,rfl⟩:=hy0.m.slices;have HMy:=zh (hy0.m.below HW.out);have d0:=cell_later HW.out hy0.c0;have d1:=cell_later HW.out hy0.c1;have d2:=cell_later HW.out hy0.c2;have d3:=cell_later HW.out hy0.c3;have hsy:=HSb.out t hltt;have HHk:=zh (HHa.out wr (cg b t).key HW.out);have hql:qs.length ≤ 100000:=by have:=HS.out.l; rw [List.length_map] at this; omega
     clear hy0;rcases HLa.out (cg b t).key with ⟨hh,hlk⟩ | ⟨i,hia,hh,hlk,-⟩
     ·rw [hh] at HHk;obtain ⟨q1,q2⟩:=HS.out.next HRc.out hltt hsy hlk;have HWk:=zh (HWt.out wr _ qs (cg b t) _ _ HO.out HMy.out hsy (fun p hp => HS.out.v _ (List.mem_map_of_mem hp)) hql)
      unfold WithR at HWk;rw [q1] at HWk;have HS2:=zh q2;clear q1 q2 hh hlk hsy HS HMy HLa HHa hql;generalize withL (qs.map cellOf) (cg b t) = Z at *;generalize cg b t = y at *;go_wp2_with fail;refine HHk.out.mono ?_; rintro e w3 ⟨rfl,rfl⟩;clear HHk;go_wp2_with fail;refine HWk.out.mono ?_; rintro e w4 ⟨r,ps2,rfl,hr,hm,hb⟩;have HS3:=zh (show RestS a b T (t + 1) (ps2.map cellOf) from by rw [hm]; exact HS2.out)
      have HW3:=zh (zqaa HW.out hb);have HO3:=zh hr;obtain ⟨ra,rc,rfl⟩:=hr.any;clear hr hm hb HWk HS2 HW HO d0 d1 d2 d3;go_wp2_with fail;go_roundw
      case rel => exact ⟨t + 1,ps2,ra,rc,by omega,by go_num,rfl,HO3,HS3,HW3⟩
      case measure => simp [intOf]; omega
     ·rw [hh] at HHk;have HS2:=zh (HS.out.skip hltt hlk);have hi0:¬ (i:Int) < 0:=by omega
      clear hh hlk hsy HS HMy HLa HHa hql hia;generalize cg b t = y at *;go_wp2_with fail;refine HHk.out.mono ?_; rintro e w3 ⟨rfl,rfl⟩;clear HHk d0 d1 d2 d3;go_wp2_with fail;go_roundw
      case rel => exact ⟨t + 1,qs,oa,oc,by omega,by go_num,rfl,HO,HS2,HW⟩
      case measure => simp [intOf]; omega
    ·have htb:t = b.length:=by omega
     subst htb;have hltt':¬ (b.length:Int) < (b.length:Int):=by omega
     have hT:=HS.out.end;subst hT;clear HS HSb HHa HLa HWt HRc;go_wp2_with fail;go_ret2;exact ⟨_,qs,rfl,HO.out,rfl,HW.out⟩
theorem zxaw {x z:Ce} {r:Nat × List Ce} (h:z ∈ (consE x r).2):z = x ∨ z ∈ r.2:=by
 unfold consE at h
 by_cases e:r.1 = 0
 ·rw [if_pos e] at h;exact List.mem_cons.1 h
 ·rw [if_neg e] at h; cases h
theorem zxao:∀ (a b:List Ce),(∀ c ∈ a,Sv 1 c) → (∀ c ∈ b,Sv 1 c) → ∀ x ∈ (mergeC a b).2,Sv 2 x
 | [],b,_,hb => fun x hx => by
  unfold mergeC at hx;exact (hb x hx).mono (by decide)
 | x :: a,[],ha,_ => fun z hz => by
  unfold mergeC at hz;exact (ha z hz).mono (by decide)
 | x :: a,y :: b,ha,hb => fun z hz => by
  rw [mergeC] at hz;have hx:=ha x (List.mem_cons_self ..);have hy:=hb y (List.mem_cons_self ..);have ha':∀ c ∈ a,Sv 1 c:=fun c hc => ha c (List.mem_cons_of_mem _ hc)
  have hb':∀ c ∈ b,Sv 1 c:=fun c hc => hb c (List.mem_cons_of_mem _ hc)
  by_cases h1:x.key < y.key
  ·rw [if_pos h1] at hz;rcases zxaw hz with rfl | hz
   ·exact hx.mono (by decide)
   ·exact zxao a (y :: b) ha' hb z hz
  ·rw [if_neg h1] at hz
   by_cases h2:y.key < x.key
   ·rw [if_pos h2] at hz;rcases zxaw hz with rfl | hz
    ·exact hy.mono (by decide)
    ·exact zxao (x :: a) b ha hb' z hz
   ·rw [if_neg h2] at hz
    by_cases h3:errJ x y = 0
    ·rw [if_pos h3] at hz;rcases zxaw hz with rfl | hz
     ·exact zqzm hx hy (by decide) h3
     ·exact zxao a b ha' hb' z hz
    ·rw [if_neg h3] at hz; cases hz
termination_by a b => a.length + b.length
theorem zxbt {a b:List Ce} (ha:∀ c ∈ a,Sv 1 c) (hb:∀ c ∈ b,Sv 1 c):∀ x ∈ (mergeE a b).2,Sv 2 x:=by
 unfold mergeE
 split
 ·exact zxao a b ha hb
 ·exact fun x hx => nomatch hx
theorem MergeP.lis {w w':World} {a b:List Ce} {e:Ending} (h:MergeP w a b e w'):LisP w (mergeE a b) e w':=by
 obtain ⟨r,rfl,ps,hr,hp,hb⟩:=h;obtain ⟨x,c,rfl⟩:=hr.any;have hc:=hr.cells;rw [hp] at hc;exact ⟨x,_,c,rfl,by rw [← hp,List.length_map],hc,hb⟩
theorem MergR.lis {w w':World} {R:Nat × List Ce} {e:Ending} (h:MergR w R e w'):LisP w R e w':=by
 obtain ⟨r,ps,rfl,hr,hp,hb⟩:=h;obtain ⟨x,c,rfl⟩:=hr.any;have hc:=hr.cells;rw [hp] at hc;exact ⟨x,_,c,rfl,by rw [← hp,List.length_map],hc,hb⟩
theorem zxa6 {l:List Ce} (h:lightL l = true) (hw:LsW l):l.length ≤ 60 ∧ ∀ c ∈ l,Sv 1 c:=by
 obtain ⟨h1,h2⟩:=zqfv.1 h;refine ⟨h1,fun c hc => ?_⟩
 obtain ⟨i,hi,rfl⟩:=List.getElem_of_mem hc;have:=h2 i hi;rw [zqat hi] at this;exact zqwv this (hw _ hc)
end Go.Proofs.YtmnbljijnbhghaaGreatDoor
namespace Go.Proofs.YtmnbljijnbhghaaGreatDoor
set_option maxRecDepth 100000
open Go.RowKit Go.ChangeShapes Go.WideShapes Go.Deep
set_option linter.unusedVariables false
def RowCe (w:World) (c:Ce) (cs:List Value):Prop:=∃ I N,cs = [.int .u64 c.key,.int .i64 c.cnt,I,N] ∧ CeM w I N c ∧ CeW c
theorem zqsg {H:Type} {enc:TypeId × Value → H} {w:World} {base:Nat} {spare:Nat → Bool} {held:Bool} {fuel:Nat} {cs:List Value} {x:DataW H × List MemPlace} {g0 g1 g2 g3:Field}
  (hT:Tryz.prog.underlying 38 = some (.struct #[g0,g1,g2,g3])) (hc:Tryz.prog.cellsOf 38 = 4) (o0:g0.offset = 0) (o1:g1.offset = 1) (o2:g2.offset = 2) (o3:g3.offset = 3)
  (y0:g0.type = 34) (y1:g1.type = 2) (y2:g2.type = 35) (y3:g3.type = 36)
  (c0':Tryz.prog.cellsOf 34 = 1) (c1':Tryz.prog.cellsOf 2 = 1) (c2':Tryz.prog.cellsOf 35 = 1) (c3':Tryz.prog.cellsOf 36 = 1)
  (h:DataW.trod enc Tryz.prog w base spare held fuel 38 cs = some x):∃ I N c,cs = [.int .u64 c.key,.int .i64 c.cnt,I,N] ∧ CeM w I N c ∧ CeW c:=by
 obtain ⟨xs,n,-,hx,hlen,hxl,hf⟩:=DataW.trod_struct hT h;rw [hc] at hlen
 match cs,hlen with
 | [c0,c1,c2,c3],_ =>
  match xs,hxl with
  | [z0,z1,z2,z3],_ =>
   have q0:=hf 0 g0 rfl;have q1:=hf 1 g1 rfl;have q2:=hf 2 g2 rfl;have q3:=hf 3 g3 rfl;rw [o0,y0,c0'] at q0;rw [o1,y1,c1'] at q1;rw [o2,y2,c2'] at q2;rw [o3,y3,c3'] at q3;obtain ⟨k,k0,-,w0⟩:=DataW.trod_int Tryz.underlying34 q0;obtain ⟨m,k1,-,w1⟩:=DataW.trod_int Tryz.underlying2 q1;obtain ⟨ls,k2,w2⟩:=zqvc (v:=c2) q2;obtain ⟨rs,k3,w3⟩:=zqxg (v:=c3) q3;obtain rfl:c0 = .int .u64 k:=by simpa using k0
   obtain rfl:c1 = .int .i64 m:=by simpa using k1
   exact ⟨c2,c3,⟨k,m,ls,rs⟩,rfl,⟨k2,k3⟩,⟨by simp [Lit.wf,IntKind.min,IntKind.max,IntKind.signed,IntKind.bits] at w0; omega,wf_i64 w1,w2,w3⟩⟩
theorem zqsh {H:Type} {enc:TypeId × Value → H} {w:World} {base:Nat} {spare:Nat → Bool} {held:Bool} {v:Value} {d:DataW H} {p:List MemPlace}
  (h:DataW.Trod enc Tryz.prog w base spare held 28 v d p) (hs:∃ a l c,v = .slice a l c):∃ l,Cells w v l ∧ LsW l:=by
 obtain ⟨a,n,c,rfl⟩:=hs;obtain ⟨fuel,h⟩:=h;obtain ⟨l,a,cap,e,h1,h2,h3,h4⟩:=zqie (n:=4) (RowCe w) ce0 (by decide) Tryz.underlying28 (by kernel_rfl)
  (fun {fuel cs x} h => by
   obtain ⟨I,N,c,e,k1,k2⟩:=zqsg Tryz.underlying38 (by kernel_rfl) rfl rfl rfl rfl rfl rfl rfl rfl (by kernel_rfl) (by kernel_rfl) (by kernel_rfl) (by kernel_rfl) h
   exact ⟨c,⟨I,N,e,k1,k2⟩,by rw [e]; rfl⟩) h
 rw [e];refine ⟨l,⟨a,cap,rfl,h1,h2,h4.imp id ?_⟩,fun z hz => ?_⟩
 ·rintro ⟨b,off,rfl,hlt,hc⟩;refine ⟨b,off,rfl,hlt,fun i hi => ?_⟩
  obtain ⟨cs,⟨I,N,rfl,hm,-⟩,hcell⟩:=hc i hi;rw [zqat hi];exact ⟨I,N,by first|(simp;done)|exact hcell 0 (by decide),by first|(simp;done)|exact hcell 1 (by decide),by first|(simp;done)|exact hcell 2 (by decide),by first|(simp;done)|exact hcell 3 (by decide),hm⟩
 ·obtain ⟨cs,I,N,-,-,hw⟩:=h3 z hz;exact hw
end Go.Proofs.YtmnbljijnbhghaaGreatDoor
