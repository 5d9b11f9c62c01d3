/- Contracts that the law leans on: Codeb Namh. -/
import Derived.Lib.ItoaNum
import Derived.OwnWalk
import Derived.Deep.AppendLies
import Derived.Deep.RegionLawGrows
import Derived.WalkKit
import Derived.Maps.OwnSet
import Derived.Lib.Hide
import Derived.Below
import Derived.OpenShut
import Derived.BigQuiet
import Derived.Deep.QuietTactic
import Derived.Deep.Draws
import Derived.Deep.CutBlock
import Derived.WalkSmall
import Derived.SliceStrings
import Derived.Test.YtmnbljijnbhghaaGreatDoorRows
import Derived.Test.YtmnbljijnbhghaaGreatDoorPt02
import Derived.Test.YtmnbljijnbhghaaGreatDoorPt06
namespace Go.Proofs.YtmnbljijnbhghaaGreatDoor
set_option maxRecDepth 100000
set_option linter.unusedVariables false
def Bt (l:List Int):Prop:=∀ x ∈ l,0 ≤ x ∧ x ≤ 255
theorem Bt.append {a b:List Int} (h:Bt a) (k:Bt b):Bt (a ++ b):=fun x hx => by
 rcases List.mem_append.1 hx with h' | h'
 ·exact h x h'
 ·exact k x h'
theorem Bt.cons {c:Int} {l:List Int} (h0:0 ≤ c) (h1:c ≤ 255) (h:Bt l):Bt (c :: l):=fun x hx => by
 rcases List.mem_cons.1 hx with rfl | h'
 ·exact ⟨h0,h1⟩
 ·exact h x h'
theorem Bt.drop {l:List Int} (h:Bt l) (n:Nat):Bt (l.drop n):=fun x hx => h x (List.mem_of_mem_drop hx)
theorem Bt.getD {l:List Int} (h:Bt l) {d:Int} (d0:0 ≤ d) (d1:d ≤ 255) (i:Nat):0 ≤ l.getD i d ∧ l.getD i d ≤ 255:=by
 by_cases hi:i < l.length
 ·rw [List.getD,List.getElem?_eq_getElem hi]; exact h _ (List.getElem_mem hi)
 ·rw [List.getD,List.getElem?_eq_none (by omega)]; exact ⟨d0,d1⟩
def Keyed (k:Int):Prop:=k = 18446744073709551615 ∨ (4503599627370495 ≤ k ∧ k ≤ 18442240474082181120)
instance (k:Int):Decidable (Keyed k):=by unfold Keyed; infer_instance
set_option maxRecDepth 100000
open Go.RowKit
set_option linter.unusedVariables false
theorem zqam {w:World} {B E:Nat} {v:Value} {n:Nat} {xs:List Value} (h:w.ownsRow B E 1 v n xs):∃ a l c,v = .slice a l c:=by
 obtain ⟨a,c,e⟩:=zqbr h;exact ⟨a,n,c,e⟩
section
variable {P : Program} (w : World)
theorem zqob (base:Nat) (t ty e:TypeId) (i:TypeInfo) (size:Nat) (ht:P.underlying t = some (.slice e)) (hi:P.info? e = some i)
  (v:Value) (n:Nat) (xs:List Value) (hown:w.ownsRow base e size v n xs) (c:Nat):(Builtin.append_ #[t,t] ty #[v,.slice none 0 c]).run P w = .ok v w:=by
 rcases hown.2 with ⟨rfl,rfl⟩ | ⟨g,cap,cur,rfl,_,_,hnc,_⟩
 ·simp [Builtin.append_,run_underlying ht,sizeOf,typeInfo,hi,Builtin.lenOf,Builtin.firstCells]
 ·simp [Builtin.append_,run_underlying ht,sizeOf,typeInfo,hi,Builtin.lenOf,Builtin.firstCells,hnc,storeCells]
end
theorem zqfw {w w2:World} {o:Obj} (hg:(w.alloc o).grownBy w2 (some w.heap.size)):Below w.heap.size w w2 :=
 (zqab w o).grown hg (by simp) (fun k hk => by have e:w.heap.size = k:=Option.some.inj hk; omega)
end Go.Proofs.YtmnbljijnbhghaaGreatDoor
namespace Go.Proofs.YtmnbljijnbhghaaGreatDoor
set_option maxRecDepth 100000
open Go.RowKit
def wordsL:List ByteArray:=[⟨#[97,110,100]⟩,⟨#[97,115,99]⟩,⟨#[98,121]⟩,⟨#[99,111,117,110,116]⟩,⟨#[100,101,115,99]⟩,⟨#[100,101,118]⟩,⟨#[105,110]⟩,⟨#[108,105,109,105,116]⟩,
 ⟨#[109,97,120]⟩,⟨#[109,101,97,110]⟩,⟨#[109,105,110]⟩,⟨#[111,114,100,101,114]⟩,⟨#[115,101,108,101,99,116]⟩,⟨#[115,104,97,114,101]⟩,⟨#[115,117,109]⟩,⟨#[119,104,101,114,101]⟩]
def txt (l:List ByteArray) (k:Nat):ByteArray:=l.getD k ByteArray.empty
def eqB (a b:ByteArray):Bool:=decide (a.data.toList = b.data.toList)
theorem zqhy {a b:ByteArray} (h:a.data.toList = b.data.toList):a = b:=ByteArray.ext (Array.toList_inj.1 h)
theorem zqkb {a b:ByteArray}:eqB a b = true ↔ a = b:=by
 unfold eqB;exact ⟨fun h => zqhy (of_decide_eq_true h),fun h => decide_eq_true (by rw [h])⟩
theorem zqfo (a:ByteArray):eqB a a = true:=zqkb.2 rfl
theorem zqi1 {a b:ByteArray} (h:a ≠ b):eqB a b = false:=by
 cases e:eqB a b with
 | false => rfl
 | true => exact absurd (zqkb.1 e) h
def placeL (l:List ByteArray) (s:ByteArray):Int:=if l.findIdx (fun x => eqB x s) < l.length then (l.findIdx (fun x => eqB x s):Int) else -1
theorem zqmu {α:Type} {p:α → Bool} {l:List α} {k:Nat} (hk:k < l.length) (h:p l[k] = true) (hb:∀ j (hj:j < k),p l[j] = false):l.findIdx p = k:=(List.findIdx_eq hk).2 ⟨h,hb⟩
theorem zqc5 {l:List ByteArray} {k:Nat} (hk:k < l.length):txt l k = l[k]:=by simp [txt,List.getD,List.getElem?_eq_getElem hk]
theorem zqlh {l:List ByteArray} {s:ByteArray} {k:Nat} (hk:k < l.length) (h:txt l k = s) (hb:∀ j,j < k → txt l j ≠ s):placeL l s = k:=by
 have e:l.findIdx (fun x => eqB x s) = k:=zqmu hk (by rw [← zqc5 hk,h]; exact zqfo _) (fun j hj => by
  have:=hb j hj;rw [zqc5 (by omega)] at this
  exact zqi1 this)
 unfold placeL;rw [e,if_pos hk]
theorem zqjm {l:List ByteArray} {s:ByteArray} (hb:∀ j,j < l.length → txt l j ≠ s):placeL l s = -1:=by
 have e:l.findIdx (fun x => eqB x s) = l.length:=List.findIdx_eq_length.2 (fun x hx => by
  obtain ⟨j,hj,rfl⟩:=List.getElem_of_mem hx;have:=hb j hj;rw [zqc5 hj] at this;exact zqi1 this)
 unfold placeL;rw [e,if_neg (by omega)]
theorem zqli {l:List ByteArray} {s:ByteArray}:0 ≤ placeL l s ↔ s ∈ l:=by
 unfold placeL
 constructor
 ·intro h
  split at h
  ·rename_i hk;have:=List.findIdx_getElem (w:=hk);have e:l[l.findIdx (fun x => eqB x s)] = s:=zqkb.1 this
   rw [← e]; exact List.getElem_mem hk
  ·omega
 ·intro h;have hk:l.findIdx (fun x => eqB x s) < l.length:=List.findIdx_lt_length_of_exists ⟨s,h,zqfo s⟩
  rw [if_pos hk];omega
def twiceAt (l:List ByteArray) (k:Nat):Bool:=decide (0 ≤ placeL (l.take k) (txt l k))
def twiceL (l:List ByteArray):Int:=if (List.range l.length).findIdx (twiceAt l) < l.length then ((List.range l.length).findIdx (twiceAt l):Int) else -1
theorem zql2 {l:List ByteArray} {k:Nat} (hk:k < l.length) (h:twiceAt l k = true) (hb:∀ j,j < k → twiceAt l j = false):twiceL l = k:=by
 have e:(List.range l.length).findIdx (twiceAt l) = k:=zqmu (by simpa using hk) (by simpa using h) (fun j hj => by simpa using hb j hj)
 unfold twiceL;rw [e,if_pos hk]
theorem zqj3 {l:List ByteArray} (hb:∀ j,j < l.length → twiceAt l j = false):twiceL l = -1:=by
 have e:(List.range l.length).findIdx (twiceAt l) = (List.range l.length).length:=List.findIdx_eq_length.2 (fun x hx => hb x (by simpa using hx))
 rw [List.length_range] at e;unfold twiceL;rw [e,if_neg (by omega)]
def keyL (s:ByteArray):Lit:=.string s.data.toList
def seen (l:List ByteArray) (k:Nat):DataW Unit:=Maps.setOf (.agg []) ((l.take k).map keyL)
theorem zqws (a b:ByteArray):(keyL a).sameKey (keyL b) = eqB a b:=by
 by_cases h:a = b
 ·subst h; rw [zqfo]; simp [keyL,Lit.sameKey]
 ·rw [Maps.sameKey_ne (fun e => h (zqhy (by simpa [keyL] using e))),zqi1 h]
theorem zquv {l:List ByteArray} {k:Nat} (hk:k < l.length):seen l (k + 1) = (seen l k).put (keyL (txt l k)) (.agg []):=by
 unfold seen;rw [List.take_add_one,List.getElem?_eq_getElem hk,List.map_append,Option.toList,List.map_cons,List.map_nil,Maps.setOf_snoc,zqc5 hk]
theorem zqwl (l:List ByteArray) (k:Nat):Maps.has (seen l k) (keyL (txt l k)) = twiceAt l k:=by
 unfold seen;rw [Maps.has_setOf _ _ _ (fun x hx => by obtain ⟨s,-,rfl⟩:=List.mem_map.1 hx; trivial),List.any_map]
 have e:((fun x:Lit => x.sameKey (keyL (txt l k))) ∘ keyL) = fun x => eqB x (txt l k):=funext fun x => zqws x _
 rw [e];unfold twiceAt
 by_cases h:txt l k ∈ l.take k
 ·rw [decide_eq_true (zqli.2 h)];exact List.any_eq_true.2 ⟨_,h,zqfo _⟩
 ·rw [decide_eq_false (fun q => h (zqli.1 q))]
  refine List.any_eq_false.2 fun x hx => ?_
  rw [zqi1 (a:=x) (fun e => h (by rw [← e]; exact hx))]
  simp
def letB (c:Int):Bool:=decide (97 ≤ c ∧ c ≤ 122)
def digB (c:Int):Bool:=decide (48 ≤ c ∧ c ≤ 57)
def byt (s:ByteArray) (j:Nat):Int:=((s.data.getD j 0).toNat:Int)
theorem zqks (s:ByteArray) (j:Nat):0 ≤ byt s j ∧ byt s j ≤ 255:=by
 have:=(s.data.getD j 0).toNat_lt;unfold byt; omega
def okAt (s:ByteArray) (j:Nat):Bool:=letB (byt s j) || (decide (0 < j) && (digB (byt s j) || decide (byt s j = 95)))
def nameB (s:ByteArray):Bool:=decide (1 ≤ s.size) && decide (s.size ≤ 16) && (List.range s.size).all (okAt s) && decide (placeL wordsL s < 0)
theorem zqm9 {s:ByteArray} {j:Nat} (hj:j < s.size) (h:okAt s j = false):nameB s = false:=by
 have:(List.range s.size).all (okAt s) = false:=List.all_eq_false.2 ⟨j,by simpa using hj,by simp [h]⟩
 simp [nameB,this]
theorem zqer {s:ByteArray} (h:¬ (1 ≤ s.size ∧ s.size ≤ 16)):nameB s = false:=by
 unfold nameB
 by_cases h1:1 ≤ s.size
 ·rw [decide_eq_false (p:=s.size ≤ 16) (by omega)]; simp
 ·rw [decide_eq_false h1]; simp
theorem zqtp {s:ByteArray} (h:0 ≤ placeL wordsL s):nameB s = false:=by
 unfold nameB;rw [decide_eq_false (p:=placeL wordsL s < 0) (by omega)]; simp
theorem zqk9 {s:ByteArray} (h:1 ≤ s.size ∧ s.size ≤ 16) (hb:∀ j,j < s.size → okAt s j = true):nameB s = decide (placeL wordsL s < 0):=by
 have:(List.range s.size).all (okAt s) = true:=List.all_eq_true.2 fun x hx => hb x (by simpa using hx)
 unfold nameB;rw [decide_eq_true h.1,decide_eq_true h.2,this];simp
theorem zqnt (a:ByteArray):(a.toList == a.toList) = true:=by simp
theorem zqu4 {a b:ByteArray} (h:a ≠ b):(a.toList == b.toList) = false:=by
 have:a.toList ≠ b.toList:=fun e => h (zqhy (by rw [← ByteArray.toList_eq,← ByteArray.toList_eq]; exact e))
 simpa using this
set_option maxRecDepth 100000
open Go.RowKit
set_option linter.unusedVariables false
def Strs (w:World) (v:Value) (l:List ByteArray):Prop :=
 ∃ a cap,v = .slice a l.length cap ∧ l.length ≤ cap ∧ l.length ≤ 9223372036854775807 ∧ (l = [] ∨ ∃ b off,a = some ⟨b,off,none⟩ ∧ b < w.heap.size ∧ ∀ i,i < l.length → w.cell? ⟨b,off + i,none⟩ = some (.string (txt l i)))
theorem Strs.below {w w':World} {v:Value} {l:List ByteArray} (h:Strs w v l) (hb:Below w.heap.size w w'):Strs w' v l:=by
 obtain ⟨a,cap,rfl,h1,h2,h3⟩:=h;refine ⟨a,cap,rfl,h1,h2,?_⟩;rcases h3 with h3 | ⟨b,off,rfl,hlt,hc⟩
 ·exact .inl h3
 ·exact .inr ⟨b,off,rfl,Nat.lt_of_lt_of_le hlt hb.size,fun i hi => (hb.cell (p:=⟨b,off + i,none⟩) hlt).trans (hc i hi)⟩
set_option maxHeartbeats 1000000 in
theorem zqs6 (v:Value) (l:List ByteArray) (s:ByteArray) (w:World) (h:Strs w v l) :
  Calls Tryz.prog 203 #[v,.string s] w fun e w' => e = .returned (.int .i64 (placeL l s)) ∧ w = w':=by
 obtain ⟨a,cap,rfl,h1,h2,h3⟩:=h;rcases h3 with rfl | ⟨b,off,rfl,hlt,hc⟩
 ·go_enter Tryz.func203,Tryz.ntmps203;go_wp2;refine wp_loop_rounds 1 ?_;rw [rounds_succ];go_wp2;go_ret;exact ⟨rfl,rfl⟩
 ·have HC:=zh hc;have HM:=zh (@zqjm l s);have HH:=zh (fun k => @zqlh l s k)
  generalize placeL l s = r at *;clear hc;go_enter Tryz.func203,Tryz.ntmps203;go_wp2;go_loopw [8] (fun i wr => ∃ k:Nat,k ≤ l.length ∧ i = .int .i64 k ∧ w = wr ∧ Hid (∀ j,j < k → txt l j ≠ s)) (fun i _ => l.length - (intOf i).toNat)
  case atStart => exact ⟨0,Nat.zero_le _,rfl,rfl,zh (fun j hj => by omega)⟩
  case round =>
   obtain ⟨k,hk,rfl,rfl,HB⟩:=hrel
   by_cases hlt:k < l.length
   ·have hx:=HC.out k hlt
    by_cases he:txt l k = s
    ·rw [he] at hx;have HR:=zh (HH.out k hlt he HB.out);have e:=zqnt s;clear he;go_wp2;go_ret;rw [HR.out];exact ⟨rfl,rfl⟩
    ·have e:=zqu4 (fun q => he q.symm)
     have HB2:=zh (fun j (hj:j < k + 1) => if q:j = k then q ▸ he else HB.out j (by omega))
     generalize txt l k = x at hx e;clear he;go_wp2;go_roundw
     case rel => exact ⟨k + 1,by omega,by go_num,by trivial,HB2⟩
     case measure => simp [intOf]; omega
   ·have:k = l.length:=by omega
    subst this;go_wp2;go_ret;rw [HM.out HB.out];exact ⟨rfl,rfl⟩
theorem zqua (v:Value) (l:List ByteArray) (s:ByteArray) (w:World) (h:Strs w v l) :
  Calls Tryz.prog 191 #[v,.string s] w fun e w' => e = .returned (.int .i64 (placeL l s)) ∧ w = w':=by
 have HI:=zh (zqs6 v l s w h);obtain ⟨a,cap,rfl,h1,h2,h3⟩:=h;generalize placeL l s = r at *;clear h3;go_enter Tryz.func191,Tryz.ntmps191;go_wp2_with fail;refine (HI.out).mono ?_; rintro e w' ⟨rfl,rfl⟩;go_wp2_with fail;go_ret;exact ⟨rfl,rfl⟩
set_option maxHeartbeats 1000000 in
theorem zqjt (v:Value) (l:List ByteArray) (s:ByteArray) (w:World) (h:Strs w v l) :
  Calls Tryz.prog 124 #[v,.string s] w fun e w' => e = .returned (.int .i64 (placeL l s)) ∧ w = w':=by
 obtain ⟨a,cap,rfl,h1,h2,h3⟩:=h;rcases h3 with rfl | ⟨b,off,rfl,hlt,hc⟩
 ·go_enter Tryz.func124,Tryz.ntmps124;go_wp2;refine wp_loop_rounds 1 ?_;rw [rounds_succ];go_wp2;go_ret;exact ⟨rfl,rfl⟩
 ·have HC:=zh hc;have HM:=zh (@zqjm l s);have HH:=zh (fun k => @zqlh l s k)
  generalize placeL l s = r at *;clear hc;go_enter Tryz.func124,Tryz.ntmps124;go_wp2;go_loopw [5] (fun i wr => ∃ k:Nat,k ≤ l.length ∧ i = .int .i64 k ∧ w = wr ∧ Hid (∀ j,j < k → txt l j ≠ s)) (fun i _ => l.length - (intOf i).toNat)
  case atStart => exact ⟨0,Nat.zero_le _,rfl,rfl,zh (fun j hj => by omega)⟩
  case round =>
   obtain ⟨k,hk,rfl,rfl,HB⟩:=hrel
   by_cases hlt:k < l.length
   ·have hx:=HC.out k hlt
    by_cases he:txt l k = s
    ·rw [he] at hx;have HR:=zh (HH.out k hlt he HB.out);have e:=zqnt s;clear he;go_wp2;go_ret;rw [HR.out];exact ⟨rfl,rfl⟩
    ·have e:=zqu4 he;have HB2:=zh (fun j (hj:j < k + 1) => if q:j = k then q ▸ he else HB.out j (by omega))
     generalize txt l k = x at hx e;clear he;go_wp2;go_roundw
     case rel => exact ⟨k + 1,by omega,by go_num,by trivial,HB2⟩
     case measure => simp [intOf]; omega
   ·have:k = l.length:=by omega
    subst this;go_wp2;go_ret;rw [HM.out HB.out];exact ⟨rfl,rfl⟩
theorem zqip (w:World) (l:List ByteArray) (t:TypeId) (hl:l.length ≤ 9223372036854775807):Strs (w.alloc (.cells (l.map Value.string).toArray t)) (.slice (some ⟨w.heap.size,0,none⟩) l.length l.length) l:=by
 refine ⟨_,_,rfl,Nat.le_refl _,hl,.inr ⟨w.heap.size,0,rfl,by simp,fun i hi => ?_⟩⟩
 rw [Nat.zero_add,cell_of_row _ _ _ _ _ _ (heap_alloc_new w _)];simp [txt,List.getD,List.getElem?_eq_getElem hi]
def NewList (l:List ByteArray) (w:World) (e:Ending) (w':World):Prop:=∃ v,e = .returned v ∧ Strs w' v l ∧ Below w.heap.size w w'
theorem zqve (w:World):Calls Tryz.prog 192 #[] w (NewList wordsL w):=by
 have H:=zh (zqip w wordsL 9 (by decide))
 go_enter Tryz.func192,Tryz.ntmps192;go_wp2;go_ret;exact ⟨_,rfl,H.out,(Below.refl _ _).alloc (Nat.le_refl _) _⟩
theorem zqoz (w:World):Calls Tryz.prog 125 #[] w (NewList wordsL w):=by
 have H:=zh (zqip w wordsL 9 (by decide))
 go_enter Tryz.func125,Tryz.ntmps125;go_wp2;go_ret;exact ⟨_,rfl,H.out,(Below.refl _ _).alloc (Nat.le_refl _) _⟩
theorem zqx3 (s:ByteArray) (w:World) :
  Calls Tryz.prog 168 #[.string s] w fun e w' => e = .returned (.bool (decide (0 ≤ placeL wordsL s))) ∧ Below w.heap.size w w':=by
 have H:=zh (zqve w);have HP:=zh (fun v w' (h:Strs w' v wordsL) => zqua v wordsL s w' h)
 unfold NewList at H;generalize wordsL = l at *;generalize placeL l s = r at *;go_enter Tryz.func168,Tryz.ntmps168;go_wp2_with fail;refine (H.out).mono ?_; rintro e w1 ⟨v,rfl,hs,hb⟩;have HC:=zh (HP.out _ _ hs);have HB:=zh hb;obtain ⟨a,cap,rfl,-⟩:=hs;clear hb HP H;go_wp2_with fail;refine (HC.out).mono ?_; rintro e w2 ⟨rfl,rfl⟩;go_wp2_with fail;go_ret;exact ⟨rfl,HB.out⟩
set_option maxRecDepth 100000
open Go.RowKit
set_option linter.unusedVariables false
theorem zqq4 (c:Int) (w:World):Calls Tryz.prog 166 #[.int .u8 c] w fun e w' => e = .returned (.bool (letB c)) ∧ w = w':=by
 by_cases h1:97 ≤ c
 ·by_cases h2:c ≤ 122
  ·have e:letB c = true:=decide_eq_true ⟨h1,h2⟩;rw [e];go_enter Tryz.func166,Tryz.ntmps166;go_wp2;go_ret;exact ⟨rfl,rfl⟩
  ·have e:letB c = false:=decide_eq_false (fun q => h2 q.2)
   rw [e];go_enter Tryz.func166,Tryz.ntmps166;go_wp2;go_ret;exact ⟨rfl,rfl⟩
 ·have e:letB c = false:=decide_eq_false (fun q => h1 q.1)
  rw [e];go_enter Tryz.func166,Tryz.ntmps166;go_wp2;go_ret;exact ⟨rfl,rfl⟩
theorem zqoj (c:Int) (w:World):Calls Tryz.prog 167 #[.int .u8 c] w fun e w' => e = .returned (.bool (digB c)) ∧ w = w':=by
 by_cases h1:48 ≤ c
 ·by_cases h2:c ≤ 57
  ·have e:digB c = true:=decide_eq_true ⟨h1,h2⟩;rw [e];go_enter Tryz.func167,Tryz.ntmps167;go_wp2;go_ret;exact ⟨rfl,rfl⟩
  ·have e:digB c = false:=decide_eq_false (fun q => h2 q.2)
   rw [e];go_enter Tryz.func167,Tryz.ntmps167;go_wp2;go_ret;exact ⟨rfl,rfl⟩
 ·have e:digB c = false:=decide_eq_false (fun q => h1 q.1)
  rw [e];go_enter Tryz.func167,Tryz.ntmps167;go_wp2;go_ret;exact ⟨rfl,rfl⟩
theorem zqyc (r:Int):(!decide (0 ≤ r)) = decide (r < 0):=by
 by_cases q:r < 0
 ·rw [decide_eq_true q,decide_eq_false (by omega)]; rfl
 ·rw [decide_eq_false q,decide_eq_true (by omega)]; rfl
theorem zqj9 {s:ByteArray} {k:Nat} (h:k < s.size):(s[k].toNat:Int) = byt s k:=by
 have h2:k < s.data.size:=h;have e:s.data.getD k 0 = s[k]:=by
  rw [ByteArray.getElem_eq_getElem_data];unfold Array.getD;rw [dif_pos h2]; rfl
 unfold byt;rw [e]
set_option maxHeartbeats 1000000 in
theorem zqqw (s:ByteArray) (w:World) (hs:s.size ≤ maxLen) :
  Calls Tryz.prog 139 #[.string s] w fun e w' => e = .returned (.bool (nameB s)) ∧ Below w.heap.size w w':=by
 have HL:=zh (fun c w => zqq4 c w)
 have HD:=zh (fun c w => zqoj c w)
 by_cases h1:s.size < 1
 ·rw [zqer (by omega)]
  have h0:(s.size:Int) < 1:=by omega
  go_enter Tryz.func139,Tryz.ntmps139;go_wp2;go_ret;exact ⟨rfl,Below.refl _ _⟩
 ·by_cases h2:16 < s.size
  ·rw [zqer (by omega)]
   have h0:¬ (s.size:Int) < 1:=by omega
   have h2':(16:Int) < (s.size:Int):=by omega
   go_enter Tryz.func139,Tryz.ntmps139;go_wp2;go_ret;exact ⟨rfl,Below.refl _ _⟩
  ·have HG:=zh (@zqk9 s (by omega))
   have HW:=zh (fun w' => zqx3 s w')
   have HBad:=zh (fun j => @zqm9 s j)
   have h0:¬ (s.size:Int) < 1:=by omega
   have h2':(s.size:Int) ≤ 16:=by omega
   have hp:0 < s.size:=by omega
   go_enter Tryz.func139,Tryz.ntmps139;go_wp2_with fail;rw [zqj9 hp];refine (HL.out _ _).mono ?_; rintro e w1 ⟨rfl,rfl⟩
   by_cases hl:letB (byt s 0) = true
   ·have HO:=zh hl;rw [hl];clear hl;go_wp2_with fail;go_loopw [20] (fun i wr => ∃ k:Nat,k ≤ s.size ∧ i = .int .i64 k ∧ w = wr ∧ Hid (∀ j,j < k → okAt s j = true)) (fun i _ => s.size - (intOf i).toNat)
    case atStart => exact ⟨0,Nat.zero_le _,rfl,rfl,zh (fun j hj => by omega)⟩
    case round =>
     obtain ⟨k,hk,rfl,rfl,HB⟩:=hrel
     by_cases hlt:k < s.size
     ·have HN:=zh (fun (q:okAt s k = true) j (hj:j < k + 1) => if e:j = k then e ▸ q else HB.out j (by omega))
      have HF:=zh (fun (q:okAt s k = false) => HBad.out k hlt q)
      have HE:Hid (okAt s k = (letB (byt s k) || (decide (0 < k) && (digB (byt s k) || decide (byt s k = 95))))):=zh rfl
      have HZ:Hid (letB (byt s k) = false → 0 < k):=zh (fun q => by
       by_cases e:k = 0
       ·subst e; rw [HO.out] at q; cases q
       ·omega)
      have HY:=zh (zqj9 hlt);have HR:=zqks s k;generalize byt s k = c at *;go_wp2_with fail;rw [HY.out];refine (HL.out _ _).mono ?_; rintro e w1 ⟨rfl,rfl⟩
      by_cases hl:letB c = true
      ·have HN2:=zh (HN.out (by rw [HE.out,hl]; rfl))
       rw [hl];clear hl;go_wp2_with fail;go_roundw
       case rel => exact ⟨k + 1,by omega,by go_num,by trivial,HN2⟩
       case measure => simp [intOf]; omega
      ·have hl2:letB c = false:=by simpa using hl
       have HP:=zh (HZ.out hl2);rw [hl2] at HE ⊢;clear hl hl2 HZ;go_wp2_with fail;rw [HY.out];refine (HD.out _ _).mono ?_; rintro e w1 ⟨rfl,rfl⟩
       by_cases hd:digB c = true
       ·have HN2:=zh (HN.out (by rw [HE.out,hd,decide_eq_true HP.out]; rfl))
        rw [hd];clear hd;go_wp2_with fail;go_roundw
        case rel => exact ⟨k + 1,by omega,by go_num,by trivial,HN2⟩
        case measure => simp [intOf]; omega
       ·have hd2:digB c = false:=by simpa using hd
        rw [hd2] at HE ⊢;clear hd hd2;have hy:=HY.out
        by_cases hu:c = 95
        ·have HN2:=zh (HN.out (by rw [HE.out,decide_eq_true hu,decide_eq_true HP.out]; rfl))
         subst hu;have hq:((s[k].toNat:Int) == 95) = true:=by rw [hy]; rfl
         clear hy;go_wp2_with fail;go_roundw
         case rel => exact ⟨k + 1,by omega,by go_num,by trivial,HN2⟩
         case measure => simp [intOf]; omega
        ·have HF2:=zh (HF.out (by rw [HE.out,decide_eq_false hu]; simp))
         have hq:((s[k].toNat:Int) == 95) = false:=by rw [hy]; simpa using hu
         clear hy;go_wp2_with fail;go_ret;rw [HF2.out];exact ⟨rfl,Below.refl _ _⟩
     ·have:k = s.size:=by omega
      subst this;have HG2:=zh (HG.out HB.out);go_wp2_with fail;refine (HW.out _).mono ?_; rintro e w1 ⟨rfl,hb⟩;have HBB:=zh hb;clear hb;generalize placeL wordsL s = r at *;go_wp2_with fail;go_ret;rw [HG2.out];exact ⟨congrArg (fun x => Ending.returned (Value.bool x)) (zqyc r),HBB.out⟩
   ·have hl2:letB (byt s 0) = false:=by simpa using hl
    have HR:=zh (HBad.out 0 hp (by unfold okAt; rw [hl2]; rfl))
    rw [hl2];clear hl hl2;go_wp2_with fail;go_ret;rw [HR.out];exact ⟨rfl,Below.refl _ _⟩
set_option maxRecDepth 100000
open Go.RowKit
set_option linter.unusedVariables false
theorem ok_of {s:ByteArray} {k:Nat} {c:Int} (h:byt s k = c):okAt s k = (letB c || (decide (0 < k) && (digB c || decide (c = 95)))):=by rw [← h]; rfl
set_option maxHeartbeats 2000000 in
theorem zqy6 (s:ByteArray) (w:World) (hs:s.size ≤ maxLen) :
  Calls Tryz.prog 63 #[.string s] w fun e w' => e = .returned (.bool (nameB s)) ∧ Below w.heap.size w w':=by
 by_cases h1:s.size < 1
 ·rw [zqer (by omega)]
  have h0:(s.size:Int) < 1:=by omega
  go_enter Tryz.func63,Tryz.ntmps63;go_wp2;go_ret;exact ⟨rfl,Below.refl _ _⟩
 ·by_cases h2:16 < s.size
  ·rw [zqer (by omega)]
   have h0:¬ (s.size:Int) < 1:=by omega
   have h2':(16:Int) < (s.size:Int):=by omega
   go_enter Tryz.func63,Tryz.ntmps63;go_wp2;go_ret;exact ⟨rfl,Below.refl _ _⟩
  ·have HG:=zh (@zqk9 s (by omega))
   have HWd:=zh (@zqtp s);have H:=zh (zqoz w);have HP:=zh (fun v w' (h:Strs w' v wordsL) => zqjt v wordsL s w' h)
   have HBad:=zh (fun j => @zqm9 s j)
   have h0:¬ (s.size:Int) < 1:=by omega
   have h2':(s.size:Int) ≤ 16:=by omega
   have h3:¬ (16:Int) < (s.size:Int):=by omega
   unfold NewList at H;generalize wordsL = l at *;generalize placeL l s = r at *;go_enter Tryz.func63,Tryz.ntmps63;go_wp2_with fail;refine (H.out).mono ?_; rintro e w1 ⟨v,rfl,hs,hb⟩;have HC:=zh (HP.out _ _ hs);have HBB:=zh hb;obtain ⟨a,cap,rfl,-⟩:=hs;clear hb HP H;go_wp2_with fail;refine (HC.out).mono ?_; rintro e w2 ⟨rfl,rfl⟩
   by_cases hr:0 ≤ r
   ·have HR:=zh (HWd.out hr);go_wp2_with fail;go_ret;rw [HR.out];exact ⟨rfl,HBB.out⟩
   ·have hr1:¬ 0 ≤ r:=hr;have hr2:=zh (show decide (r < 0) = true from decide_eq_true (by omega))
    rw [hr2.out] at HG;go_wp2_with fail;go_loopw [3] (fun i wr => ∃ k:Nat,k ≤ s.size ∧ i = .int .i64 k ∧ w1 = wr ∧ Hid (∀ j,j < k → okAt s j = true)) (fun i _ => s.size - (intOf i).toNat)
    case atStart => exact ⟨0,Nat.zero_le _,rfl,rfl,zh (fun j hj => by omega)⟩
    case round =>
     obtain ⟨k,hk,rfl,rfl,HB⟩:=hrel
     by_cases hlt:k < s.size
     ·have HN:=zh (fun (q:okAt s k = true) j (hj:j < k + 1) => if e:j = k then e ▸ q else HB.out j (by omega))
      have HF:=zh (fun (q:okAt s k = false) => HBad.out k hlt q)
      have HY:=zh (zqj9 hlt);have HR:=zqks s k;have HE:=zh (@ok_of s k _ rfl);generalize byt s k = c at *
      by_cases p1:97 ≤ c ∧ c ≤ 122
      ·have f1:(97:Int) ≤ (s[k].toNat:Int):=by rw [HY.out]; omega
       have f2:(s[k].toNat:Int) ≤ 122:=by rw [HY.out]; omega
       have f3:(48:Int) ≤ (s[k].toNat:Int):=by omega
       have f4:¬ (s[k].toNat:Int) ≤ 57:=by omega
       have f5:((s[k].toNat:Int) == 95) = false:=by rw [HY.out]; simp; omega
       have HN2:=zh (HN.out (by rw [HE.out,show letB c = true from decide_eq_true p1]; rfl))
       go_wp2_with fail;go_roundw
       case rel => exact ⟨k + 1,by omega,by go_num,by trivial,HN2⟩
       case measure => simp [intOf]; omega
      ·have hl:letB c = false:=decide_eq_false p1;rw [hl] at HE;clear hl
       by_cases q:(48 ≤ c ∧ c ≤ 57) ∨ c = 95
       ·have HQ:=zh (show (digB c || decide (c = 95)) = true from by
         rcases q with q | q
         ·rw [show digB c = true from decide_eq_true q]; rfl
         ·rw [decide_eq_true q]; simp)
        have f1:¬ (97:Int) ≤ (s[k].toNat:Int):=by rw [HY.out]; omega
        have f3:(48:Int) ≤ (s[k].toNat:Int):=by rw [HY.out]; omega
        by_cases hz:k = 0
        ·have HF2:=zh (HF.out (by rw [HE.out,decide_eq_false (by omega)]; rfl))
         have f6:((k:Int) == 0) = true:=by simp; omega
         rcases q with q | q
         ·have f4:(s[k].toNat:Int) ≤ 57:=by rw [HY.out]; omega
          clear q hz;go_wp2_with fail;go_ret;rw [HF2.out];exact ⟨rfl,HBB.out⟩
         ·have f4:¬ (s[k].toNat:Int) ≤ 57:=by rw [HY.out]; omega
          have f5:((s[k].toNat:Int) == 95) = true:=by rw [HY.out]; simp; omega
          clear q hz;go_wp2_with fail;go_ret;rw [HF2.out];exact ⟨rfl,HBB.out⟩
        ·have HN2:=zh (HN.out (by rw [HE.out,decide_eq_true (by omega),HQ.out]; rfl))
         have f6:((k:Int) == 0) = false:=by simp; omega
         rcases q with q | q
         ·have f4:(s[k].toNat:Int) ≤ 57:=by rw [HY.out]; omega
          clear q;go_wp2_with fail;go_roundw
          case rel => exact ⟨k + 1,by omega,by go_num,by trivial,HN2⟩
          case measure => simp [intOf]; omega
         ·have f4:¬ (s[k].toNat:Int) ≤ 57:=by rw [HY.out]; omega
          have f5:((s[k].toNat:Int) == 95) = true:=by rw [HY.out]; simp; omega
          clear q;go_wp2_with fail;go_roundw
          case rel => exact ⟨k + 1,by omega,by go_num,by trivial,HN2⟩
          case measure => simp [intOf]; omega
       ·have HF2:=zh (HF.out (by rw [HE.out,show digB c = false from decide_eq_false (fun h => q (.inl h)),decide_eq_false (fun h => q (.inr h))]; simp))
        have f5:((s[k].toNat:Int) == 95) = false:=by rw [HY.out]; simp; omega
        by_cases g1:97 ≤ c
        ·have f1:(97:Int) ≤ (s[k].toNat:Int):=by rw [HY.out]; omega
         have f2:¬ (s[k].toNat:Int) ≤ 122:=by rw [HY.out]; omega
         have f3:(48:Int) ≤ (s[k].toNat:Int):=by omega
         have f4:¬ (s[k].toNat:Int) ≤ 57:=by omega
         go_wp2_with fail;go_ret;rw [HF2.out];exact ⟨rfl,HBB.out⟩
        ·have f1:¬ (97:Int) ≤ (s[k].toNat:Int):=by rw [HY.out]; omega
         by_cases g2:48 ≤ c
         ·have f3:(48:Int) ≤ (s[k].toNat:Int):=by rw [HY.out]; omega
          have f4:¬ (s[k].toNat:Int) ≤ 57:=by rw [HY.out]; omega
          go_wp2_with fail;go_ret;rw [HF2.out];exact ⟨rfl,HBB.out⟩
         ·have f3:¬ (48:Int) ≤ (s[k].toNat:Int):=by rw [HY.out]; omega
          go_wp2_with fail;go_ret;rw [HF2.out];exact ⟨rfl,HBB.out⟩
     ·have:k = s.size:=by omega
      subst this;have HG2:=zh (HG.out HB.out);go_wp2_with fail;go_ret;rw [HG2.out];exact ⟨rfl,HBB.out⟩
set_option maxRecDepth 100000
open Go.RowKit Go.Maps Go.WideMaps
set_option linter.unusedVariables false
theorem lawK:Go.Maps.Keyed Tryz.prog 9:=string_keyed Tryz.underlying9
theorem zeroE (w:World):(zeroValue 189).run Tryz.prog w = .ok (.agg #[]) w:=by kernel_rfl
theorem zqz6 {l:List ByteArray} (hs:∀ s ∈ l,s.size ≤ maxLen) {k:Nat} (hk:k < l.length):keyOf Tryz.prog 9 (.string (txt l k)) = some (keyL (txt l k)):=by
 refine keyOf_string_mk Tryz.underlying9 ?_;rw [zqc5 hk];exact hs _ (List.getElem_mem hk)
set_option maxHeartbeats 2000000 in
theorem zqu5 (v:Value) (l:List ByteArray) (w:World) (h:Strs w v l) (hl:l.length ≤ 1000000) (hs:∀ s ∈ l,s.size ≤ maxLen) :
  Calls Tryz.prog 91 #[v] w fun e w' => e = .returned (.int .i64 (twiceL l)) ∧ Below w.heap.size w w':=by
 have hmm:=@run_makeMap Tryz.prog;obtain ⟨a,cap,rfl,h1,h2,h3⟩:=h;rcases h3 with rfl | ⟨b,off,rfl,hlt,hc⟩
 ·go_enter Tryz.func91,Tryz.ntmps91;go_wp2;refine wp_loop_rounds 1 ?_;rw [rounds_succ];go_wp2;go_ret;exact ⟨rfl,(Below.refl _ _).alloc (Nat.le_refl _) _⟩
 ·have HC:=zh hc;have HM:=zh (@zqj3 l);have HH:=zh (fun k => @zql2 l k)
  have HK:=zh (fun k => @zqz6 l hs k)
  have HS:=zh (fun k => zqwl l k)
  have HN:=zh (fun k => @zquv l k)
  generalize twiceL l = r at *;clear hc hs;go_enter Tryz.func91,Tryz.ntmps91;go_wp2;go_loopw [11] (fun i wr => ∃ k:Nat,k ≤ l.length ∧ i = .int .i64 k ∧ Hid (wr.ownsMap Tryz.prog 9 (unitElem (H:=Unit)) w.heap.size k (seen l k)) ∧ Hid (Below w.heap.size w wr) ∧ Hid (∀ j,j < k → twiceAt l j = false)) (fun i _ => l.length - (intOf i).toNat)
  case atStart => exact ⟨0,Nat.zero_le _,rfl,zh (World.ownsMap_made _ _ _ _),zh ((Below.refl _ _).alloc (Nat.le_refl _) _),zh (fun j hj => by omega)⟩
  case round =>
   obtain ⟨k,hk,rfl,HO,HB,HJ⟩:=hrel
   by_cases hlk:k < l.length
   ·have hx:wr.cell? ⟨b,off + k,none⟩ = some (.string (txt l k)):=(HB.out.cell (p:=⟨b,off + k,none⟩) hlt).trans (HC.out k hlk);have HKK:=zh (HK.out k hlk);have HSS:=zh (HS.out k);have HNN:=zh (HN.out k hlk);have HQ:=zh (fun q:twiceAt l k = false => fun j (hj:j < k + 1) => if e:j = k then (e ▸ q:twiceAt l j = false) else HJ.out j (by omega))
    have HR:=zh (fun q:twiceAt l k = true => HH.out k hlk q HJ.out)
    generalize twiceAt l k = t at *;generalize txt l k = x at *;generalize seen l k = D at *;have HSz:=zh HB.out.size;go_wp2_with (first
     | (at_lookup; refine wpList_lookup_own_unit _ rfl _ _ 188 rfl 9 189 lawK Tryz.underlying188 (zeroE _) w.heap.size k D rfl HO.out _ _ rfl HKK.out ?_)
     | (at_mapUpdate; refine wpList_mapUpdate_own _ rfl _ _ _ 188 rfl 9 189 lawK Tryz.underlying188 (unitElem (H:=Unit)) w.heap.size k D rfl (HO.out.alloc _) (by unfold maxLen; omega) _ _ _ rfl rfl HKK.out _ [] unitElem_mk ?_; intro w1 hown1 hgrow1)
     | fail)
    ·have ht:t = true:=by rw [← HSS.out]; assumption
     have HR2:=zh (HR.out ht);clear ht;go_ret;rw [HR2.out];exact ⟨rfl,HB.out.alloc HSz.out _⟩
    ·have ht:t = false:=by rw [← HSS.out]; assumption
     have HQ2:=zh (HQ.out ht);have HO1:=zh hown1;rw [← HNN.out] at HO1;have HB1:=zh ((HB.out.alloc HSz.out (.cells #[] 189)).grown hgrow1 (by have:=HSz.out; simp; omega) (fun j hj => by cases hj; exact Nat.le_refl _))
     clear ht hown1 hgrow1;go_wp2;go_roundw
     case rel => exact ⟨k + 1,by omega,by go_num,HO1,HB1,HQ2⟩
     case measure => simp [intOf]; omega
   ·have:k = l.length:=by omega
    subst this;have HR:=zh (HM.out HJ.out);go_wp2;go_ret;rw [HR.out];exact ⟨rfl,HB.out⟩
set_option maxRecDepth 100000
open Go.RowKit
set_option linter.unusedVariables false
theorem Strs.drawn {w w':World} {v:Value} {l:List ByteArray} (h:Strs w v l) (hd:Drawn w w'):Strs w' v l:=h.below hd.below
theorem Strs.upto {w:World} {a:Option Addr} {cap:Nat} {l:List ByteArray} (h:Strs w (.slice a l.length cap) l) {k:Nat} (hk:k ≤ l.length):Strs w (.slice a k cap) (l.take k):=by
 obtain ⟨a',cap',e,h1,h2,h3⟩:=h;injection e with e1 e2 e3;subst e1 e3;have ht:(l.take k).length = k:=by rw [List.length_take]; omega
 refine ⟨a,cap,by rw [ht],by omega,by omega,?_⟩
 rcases h3 with rfl | ⟨b,off,rfl,hlt,hc⟩
 ·exact .inl (by simp)
 ·refine .inr ⟨b,off,rfl,hlt,fun i hi => ?_⟩
  rw [ht] at hi;rw [hc i (by omega)]
  simp [txt,List.getD,hi]
set_option maxHeartbeats 2000000 in
theorem zqrp (v:Value) (l:List ByteArray) (w:World) (h:Strs w v l) :
  Calls Tryz.prog 64 #[v] w fun e w' => e = .returned (.int .i64 (twiceL l)) ∧ Drawn w w':=by
 have HS:=zh h;obtain ⟨a,cap,rfl,h1,h2,h3⟩:=h;rcases h3 with rfl | ⟨b,off,rfl,hlt,hc⟩
 ·go_enter Tryz.func64,Tryz.ntmps64;go_wp2;refine wp_loop_rounds 1 ?_;rw [rounds_succ];go_wp2;go_ret;exact ⟨rfl,Drawn.refl _⟩
 ·have HC:=zh hc;have HM:=zh (@zqj3 l);have HH:=zh (fun k => @zql2 l k)
  generalize twiceL l = r at *;clear hc;go_enter Tryz.func64,Tryz.ntmps64;go_wp2;go_loopw [3] (fun i wr => ∃ k:Nat,k ≤ l.length ∧ i = .int .i64 k ∧ Hid (Drawn w wr) ∧ Hid (∀ j,j < k → twiceAt l j = false)) (fun i _ => l.length - (intOf i).toNat)
  case atStart => exact ⟨0,Nat.zero_le _,rfl,zh (Drawn.refl _),zh (fun j hj => by omega)⟩
  case round =>
   obtain ⟨k,hk,rfl,HD,HJ⟩:=hrel
   by_cases hlk:k < l.length
   ·have hx:wr.cell? ⟨b,off + k,none⟩ = some (.string (txt l k)):=(HD.out.below.cell (p:=⟨b,off + k,none⟩) hlt).trans (HC.out k hlk);have HP:=zh (fun n => (zqjt _ (l.take k) (txt l k) (wr.drewN n) ((HS.out.drawn (HD.out.next n)).upto hk)).mono fun e w' h => show e = .returned (.int .i64 (placeL (l.take k) (txt l k))) ∧ ∃ m,w' = (wr.drewN n).drewN m from ⟨h.1,0,h.2.symm⟩)
    have HQ:=zh (fun q:twiceAt l k = false => fun j (hj:j < k + 1) => if e:j = k then (e ▸ q:twiceAt l j = false) else HJ.out j (by omega))
    have HR:=zh (fun q:twiceAt l k = true => HH.out k hlk q HJ.out)
    have HE:=zh (show twiceAt l k = decide (0 ≤ placeL (l.take k) (txt l k)) from rfl);have HN:=zh (fun n => HD.out.next n)
    generalize placeL (l.take k) (txt l k) = p at *;generalize twiceAt l k = t at *;generalize txt l k = x at *;have hkc:k ≤ cap:=by omega
    go_upto_region 4 with fail;go_quiet ((go_at_call 124; exact Calls.quiet_of (HP.out _)));have HD2:=zh (HN.out nq)
    by_cases hp:0 ≤ p
    ·have HR2:=zh (HR.out (by rw [HE.out]; exact decide_eq_true hp))
     go_wp2;go_ret;rw [HR2.out];exact ⟨rfl,HD2.out⟩
    ·have HQ2:=zh (HQ.out (by rw [HE.out]; exact decide_eq_false hp))
     go_wp2;go_roundw
     case rel => exact ⟨k + 1,by omega,by go_num,HD2,HQ2⟩
     case measure => simp [intOf]; omega
   ·have:k = l.length:=by omega
    subst this;have HR:=zh (HM.out HJ.out);go_wp2;go_ret;rw [HR.out];exact ⟨rfl,HD.out⟩
set_option maxRecDepth 100000
open Go.RowKit
set_option linter.unusedVariables false
set_option maxRecDepth 100000
open Go.RowKit
set_option linter.unusedVariables false
def GivenS (w:World) (v:Value) (l:List ByteArray):Prop:=Strs w v l ∧ ∀ s ∈ l,s.size ≤ maxLen
theorem zqqq {w:World}:GivenS w (.slice none 0 0) []:=⟨⟨none,0,rfl,by simp,by simp,.inl rfl⟩,fun _ h => by cases h⟩
theorem GivenS.len {w:World} {a:Option Addr} {len cap:Nat} {l:List ByteArray} (h:GivenS w (.slice a len cap) l):l.length = len:=by
 obtain ⟨⟨_,_,e,_⟩,_⟩:=h; simp at e; exact e.2.1.symm
end Go.Proofs.YtmnbljijnbhghaaGreatDoor
