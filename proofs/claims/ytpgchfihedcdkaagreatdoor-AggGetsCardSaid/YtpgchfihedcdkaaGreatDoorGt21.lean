/- Contracts that the law leans on: Aggh Aggt Namh. -/
import Derived.WalkKit
import Derived.Maps.OwnSet
import Derived.Lib.Hide
import Derived.Below
import Derived.OpenShut
import Derived.BigQuiet
import Derived.Deep.QuietTactic
import Derived.Deep.Draws
import Derived.Deep.CutBlock
import Derived.WalkSmall
import Derived.SliceStrings
import Derived.Test.YtpgchfihedcdkaaGreatDoorRows
import Derived.Test.YtpgchfihedcdkaaGreatDoorGt02
import Derived.Test.YtpgchfihedcdkaaGreatDoorGt04
import Derived.Test.YtpgchfihedcdkaaGreatDoorGt06
import Derived.Test.YtpgchfihedcdkaaGreatDoorGt07
import Derived.Test.YtpgchfihedcdkaaGreatDoorGt19
import Derived.Test.YtpgchfihedcdkaaGreatDoorGt20
namespace Go.Proofs.YtpgchfihedcdkaaGreatDoor
set_option maxRecDepth 100000
open Go.RowKit
set_option linter.unusedVariables false
theorem WhW.wd {x:Wh} (h:WhW x):Wd x.sq:=h.sq
structure ShortC (n:Nat) (c:Ce):Prop where
 li:c.is.length ≤ 10
 ln:c.ns.length ≤ 10
 sq:∀ k,k < c.is.length → (wg c.is k).sq.length ≤ n
theorem ce0_w:CeW ce0:=⟨by decide,by unfold I64; decide,fun x hx => by simp [ce0] at hx,fun x hx => by simp [ce0] at hx⟩
def tidyB (l:List Int):Bool:=decide (l.length = 0) || decide (l.getD (l.length - 1) 0 ≠ 0)
theorem zqm9 {l:List Int}:tidyB l = true ↔ Tidy l:=by
 unfold tidyB Tidy;rw [Bool.or_eq_true,decide_eq_true_iff,decide_eq_true_iff,List.length_eq_zero_iff]
def rightW (x:Wh):Bool:=decide (0 ≤ x.abs) && decide (-x.abs ≤ x.sum) && decide (x.sum ≤ x.abs) && decide (x.mn ≤ x.mx) && decide (x.sq.length ≤ 7) && tidyB x.sq
def rightR (x:Re):Bool:=decide (errN x.sum = 0) && !lessB x.mx x.mn
theorem zqrc {a b:List Int} (ha:Wd a) (hb:Wd b):∀ n,wvN a n = wvN b n → ∀ i,i < n → a.getD i 0 = b.getD i 0
 | 0,_,i,hi => by omega
 | n + 1,h,i,hi => by
  unfold wvN at h;have h1:=zqb7 ha n;have h2:=zqb7 hb n;have hp:(0:Int) < 4294967296 ^ n:=Int.pow_pos (by decide)
  have q1:(wvN a n + a.getD n 0 * 4294967296 ^ n) / 4294967296 ^ n = a.getD n 0:=by rw [Int.add_mul_ediv_right _ _ (Int.ne_of_gt hp),Int.ediv_eq_zero_of_lt h1.1 h1.2,Int.zero_add]
  have q2:(wvN b n + b.getD n 0 * 4294967296 ^ n) / 4294967296 ^ n = b.getD n 0:=by rw [Int.add_mul_ediv_right _ _ (Int.ne_of_gt hp),Int.ediv_eq_zero_of_lt h2.1 h2.2,Int.zero_add]
  rw [h,q2] at q1
  by_cases e:i = n
  ·subst e; exact q1.symm
  ·rw [q1] at h;exact zqrc ha hb n (by omega) i (by omega)
theorem zq0v {a l:List Int} (ha:Wd a) (hl:Wd l) (ht:Tidy l) (hv:wv l = wv a):((a.length:Int) == (l.length:Int)) = tidyB a:=by
 by_cases h:Tidy a
 ·rw [zqm9.2 h,zqd7 hl ha ht h hv]; simp
 ·have hb:tidyB a = false:=by
   cases e:tidyB a with
   | false => rfl
   | true => exact absurd (zqm9.1 e) h
  rw [hb,beq_eq_false_iff_ne];intro e;have e2:l.length = a.length:=by omega
  apply h;have e3:l = a:=by
   apply List.ext_getElem e2;intro i h1 h2;unfold wv at hv;rw [e2] at hv;have:=zqrc hl ha _ hv i h2;simpa [List.getD,List.getElem?_eq_getElem h1,List.getElem?_eq_getElem h2] using this
  rw [← e3]; exact ht
theorem zqeq (w W:World) (h:Below w.heap.size w W) (n:Nat):Below w.heap.size w (W.drewN n):=zqaa h ((Drawn.refl W).next n).below
set_option maxHeartbeats 8000000 in
theorem zqtr (w:World) (x0 x1 x3 x4:Int) (lx:List Int) (p:Option Addr) (c:Nat) (hq:Ints .u32 w (.slice p lx.length c) lx) (hx:WhW ⟨x0,x1,lx,x3,x4⟩) :
  Calls Tryz.prog 112 #[.agg #[.int .i64 x0,.int .i64 x1,.slice p lx.length c,.int .i64 x3,.int .i64 x4]] w fun e w' => e = .returned (.bool (rightW ⟨x0,x1,lx,x3,x4⟩)) ∧ Below w.heap.size w w':=by
 have HT:=zh (fun w1 (hb:Below w.heap.size w w1) (h7:lx.length ≤ 7) => zqpe (.slice p lx.length c) lx w1 ⟨hq.below hb,hx.sq,by omega⟩ (wv lx) rfl)
 have HTd:=zh (fun zl (h1:Wd zl) (h2:Tidy zl) (h3:wv zl = wv lx) => zq0v hx.sq h1 h2 h3)
 have HR:=zh (show rightW ⟨x0,x1,lx,x3,x4⟩ = (decide (0 ≤ x1) && decide (-x1 ≤ x0) && decide (x0 ≤ x1) && decide (x3 ≤ x4) && decide (lx.length ≤ 7) && tidyB lx) from rfl);have HN:=zh (fun (h:0 ≤ x1) => And.intro (show IntKind.i64.wrap (-x1) = -x1 from IntWalk.i64_in _ (by have:=hx.abs.2; simp only at this; omega)) (show wrap64 (-x1) = -x1 from wrap64_in (by have:=hx.abs.2; simp only at this; omega) (by omega)))
 have HX:=zh (show (w.alloc (.cells #[.int .i64 x0,.int .i64 x1,.slice p lx.length c,.int .i64 x3,.int .i64 x4] 71)).heap[w.heap.size]? = some (.cells #[.int .i64 x0,.int .i64 x1,.slice p lx.length c,.int .i64 x3,.int .i64 x4] 71 (0,0)) from heap_alloc_new w _);have HB:=zh (zqab w (.cells #[.int .i64 x0,.int .i64 x1,.slice p lx.length c,.int .i64 x3,.int .i64 x4] 71));unfold Fresh at HT;generalize rightW ⟨x0,x1,lx,x3,x4⟩ = R at *;clear hq hx;go_enter Tryz.func112,Tryz.ntmps112;go_upto_region 1 with fail;generalize w.alloc (.cells #[.int .i64 x0,.int .i64 x1,.slice p lx.length c,.int .i64 x3,.int .i64 x4] 71) = W at *;obtain ⟨e0,e1,e2,e3,e4⟩:=row5 HX.out
 by_cases h1:0 ≤ x1
 ·obtain ⟨i1,i1'⟩:=HN.out h1;have d1:decide (0 ≤ x1) = true:=decide_eq_true h1
  by_cases h2:-x1 ≤ x0
  ·have d2:decide (-x1 ≤ x0) = true:=decide_eq_true h2
   by_cases h3:x0 ≤ x1
   ·have d3:decide (x0 ≤ x1) = true:=decide_eq_true h3
    by_cases h4:x3 ≤ x4
    ·have d4:decide (x3 ≤ x4) = true:=decide_eq_true h4
     by_cases h5:lx.length ≤ 7
     ·have d5:decide ((lx.length:Int) ≤ 7) = true:=decide_eq_true (by omega)
      have hR:=HR.out;rw [d1,d2,d3,d4,decide_eq_true h5] at hR;simp only [Bool.true_and] at hR;have HT7:=zh (fun w1 hb => HT.out w1 hb h5)
      have hk:W.drew.cell? ⟨w.heap.size,0,none⟩ = some (.int .i64 x0) ∧ W.drew.cell? ⟨w.heap.size,1,none⟩ = some (.int .i64 x1) ∧ W.drew.cell? ⟨w.heap.size,2,none⟩ = some (.slice p lx.length c) ∧ W.drew.cell? ⟨w.heap.size,3,none⟩ = some (.int .i64 x3) ∧ W.drew.cell? ⟨w.heap.size,4,none⟩ = some (.int .i64 x4):=⟨e0,e1,e2,e3,e4⟩;have hBw:Below w.heap.size w W.drew:=HB.out.drew;clear e0 e1 e2 e3 e4 HT HN;go_region_held3 (fun w' => w'.cell? ⟨w.heap.size,0,none⟩ = some (.int .i64 x0) ∧ w'.cell? ⟨w.heap.size,1,none⟩ = some (.int .i64 x1) ∧ w'.cell? ⟨w.heap.size,2,none⟩ = some (.slice p lx.length c) ∧ w'.cell? ⟨w.heap.size,3,none⟩ = some (.int .i64 x3) ∧ w'.cell? ⟨w.heap.size,4,none⟩ = some (.int .i64 x4)) (with_reducible exact hk)
       (first | (go_at_call 190; refine (HT7.out _ hBw).mono ?_; rintro e w2 ⟨u,zl,rfl,g1,g2,g3,g4,g5,g6⟩; have hk:=And.intro (cell_later g6 hk.1) (And.intro (cell_later g6 hk.2.1) (And.intro (cell_later g6 hk.2.2.1) (And.intro (cell_later g6 hk.2.2.2.1) (cell_later g6 hk.2.2.2.2)))); have hfin:=HTd.out zl g2 g3 g4; have HB2:=zh (zqaa hBw g6); obtain ⟨pq,cq,rfl⟩:=zqai g1; clear g1 g2 g3 g4 g5 g6))
      go_wp2_with fail;go_ret;exact ⟨by rw [hR]; first | rfl | rw [hfin] | (rw [← hfin]; rfl),HB2.out⟩
     ·have d5:decide ((lx.length:Int) ≤ 7) = false:=decide_eq_false (by omega)
      have hR:R = false:=HR.out.trans (by rw [d1,d2,d3,d4,decide_eq_false h5]; rfl)
      subst hR;go_quiet (fail);have HB2:=zh (zqeq _ _ HB.out nq);go_wp2;go_ret;exact ⟨rfl,HB2.out⟩
    ·have d4:decide (x3 ≤ x4) = false:=decide_eq_false h4;have hR:R = false:=HR.out.trans (by rw [d1,d2,d3,d4]; rfl)
     subst hR;go_quiet (fail);have HB2:=zh (zqeq _ _ HB.out nq);go_wp2;go_ret;exact ⟨rfl,HB2.out⟩
   ·have d3:decide (x0 ≤ x1) = false:=decide_eq_false h3;have hR:R = false:=HR.out.trans (by rw [d1,d2,d3]; rfl)
    subst hR;go_quiet (fail);have HB2:=zh (zqeq _ _ HB.out nq);go_wp2;go_ret;exact ⟨rfl,HB2.out⟩
  ·have d2:decide (-x1 ≤ x0) = false:=decide_eq_false h2;have hR:R = false:=HR.out.trans (by rw [d1,d2]; rfl)
   subst hR;go_quiet (fail);have HB2:=zh (zqeq _ _ HB.out nq);go_wp2;go_ret;exact ⟨rfl,HB2.out⟩
 ·have d1:decide (0 ≤ x1) = false:=decide_eq_false h1;have hR:R = false:=HR.out.trans (by rw [d1]; rfl)
  subst hR;go_quiet (fail);have HB2:=zh (zqeq _ _ HB.out nq);go_wp2;go_ret;exact ⟨rfl,HB2.out⟩
set_option maxHeartbeats 4000000 in
theorem zqxj (w:World) (x1 x2:Nat) (lx:List Int) (p:Option Addr) (c:Nat) (hq:Ints .u8 w (.slice p lx.length c) lx) (hx:ReW ⟨lx,x1,x2⟩) :
  Calls Tryz.prog 115 #[.agg #[.slice p lx.length c,.float .f64 x1,.float .f64 x2]] w fun e w' => e = .returned (.bool (rightR ⟨lx,x1,x2⟩)) ∧ Below w.heap.size w w':=by
 have HP:=zh (fun w1 (h:Below w.heap.size w w1) => zqh4 p lx.length c lx w1 (hq.below h) hx.sum)
 have HL:=zh (fun w1 => zqhn x2 x1 w1 hx.mx hx.mn)
 have HR:=zh (show rightR ⟨lx,x1,x2⟩ = (decide (errN lx = 0) && !lessB x2 x1) from rfl);have HX:=zh (show (w.alloc (.cells #[.slice p lx.length c,.float .f64 x1,.float .f64 x2] 74)).heap[w.heap.size]? = some (.cells #[.slice p lx.length c,.float .f64 x1,.float .f64 x2] 74 (0,0)) from heap_alloc_new w _);have HB:=zh (zqab w (.cells #[.slice p lx.length c,.float .f64 x1,.float .f64 x2] 74));generalize rightR ⟨lx,x1,x2⟩ = R at *;generalize lessB x2 x1 = ls at *;have hsf:=fun (w:World) (a:Addr) (m:Mode) (k:Nat) => zqbf (P:=Tryz.prog) (w:=w) (a:=a) (m:=m) k
 clear hq hx;go_enter Tryz.func115,Tryz.ntmps115;go_upto_region 1 with fail;generalize w.alloc (.cells #[.slice p lx.length c,.float .f64 x1,.float .f64 x2] 74) = W at *;obtain ⟨e0,e1,e2⟩:=row3 HX.out;go_wp2_with fail;refine (HP.out _ HB.out).mono ?_; rintro e w1 hr;obtain ⟨pp,rfl,hb1,-⟩:=zqh8 hr;have HB1:=zh (zqaa HB.out hb1);have e1:=cell_later hb1 e1;have e2:=cell_later hb1 e2;clear hr hb1 e0 HP
 by_cases he:errN lx = 0
 ·have hR:R = !ls:=HR.out.trans (by rw [decide_eq_true he]; rfl)
  subst hR;have hE:((errN lx:Int) == 0) = true:=by rw [he]; rfl
  clear he HR;generalize errN lx = E at *;go_wp2_with fail;refine (HL.out _).mono ?_; rintro e w2 ⟨rfl,rfl⟩;go_wp2_with fail;go_ret;exact ⟨rfl,HB1.out⟩
 ·have hR:R = false:=HR.out.trans (by rw [decide_eq_false he]; rfl)
  subst hR;have hE:((errN lx:Int) == 0) = false:=by rw [beq_eq_false_iff_ne]; omega
  clear he HR;generalize errN lx = E at *;go_wp2_with fail;go_ret;exact ⟨rfl,HB1.out⟩
end Go.Proofs.YtpgchfihedcdkaaGreatDoor
namespace Go.Proofs.YtpgchfihedcdkaaGreatDoor
set_option maxRecDepth 100000
open Go.RowKit
def wordsL:List ByteArray:=[⟨#[97,110,100]⟩,⟨#[97,115,99]⟩,⟨#[98,121]⟩,⟨#[99,111,117,110,116]⟩,⟨#[100,101,115,99]⟩,⟨#[100,101,118]⟩,⟨#[105,110]⟩,⟨#[108,105,109,105,116]⟩,
 ⟨#[109,97,120]⟩,⟨#[109,101,97,110]⟩,⟨#[109,105,110]⟩,⟨#[111,114,100,101,114]⟩,⟨#[115,101,108,101,99,116]⟩,⟨#[115,104,97,114,101]⟩,⟨#[115,117,109]⟩,⟨#[119,104,101,114,101]⟩]
def txt (l:List ByteArray) (k:Nat):ByteArray:=l.getD k ByteArray.empty
def eqB (a b:ByteArray):Bool:=decide (a.data.toList = b.data.toList)
theorem zqjf {a b:ByteArray} (h:a.data.toList = b.data.toList):a = b:=ByteArray.ext (Array.toList_inj.1 h)
theorem zqld {a b:ByteArray}:eqB a b = true ↔ a = b:=by
 unfold eqB;exact ⟨fun h => zqjf (of_decide_eq_true h),fun h => decide_eq_true (by rw [h])⟩
theorem zqgs (a:ByteArray):eqB a a = true:=zqld.2 rfl
theorem zqj5 {a b:ByteArray} (h:a ≠ b):eqB a b = false:=by
 cases e:eqB a b with
 | false => rfl
 | true => exact absurd (zqld.1 e) h
def placeL (l:List ByteArray) (s:ByteArray):Int:=if l.findIdx (fun x => eqB x s) < l.length then (l.findIdx (fun x => eqB x s):Int) else -1
theorem zqn1 {α:Type} {p:α → Bool} {l:List α} {k:Nat} (hk:k < l.length) (h:p l[k] = true) (hb:∀ j (hj:j < k),p l[j] = false):l.findIdx p = k:=(List.findIdx_eq hk).2 ⟨h,hb⟩
theorem zqd0 {l:List ByteArray} {k:Nat} (hk:k < l.length):txt l k = l[k]:=by simp [txt,List.getD,List.getElem?_eq_getElem hk]
theorem zqmw {l:List ByteArray} {s:ByteArray} {k:Nat} (hk:k < l.length) (h:txt l k = s) (hb:∀ j,j < k → txt l j ≠ s):placeL l s = k:=by
 have e:l.findIdx (fun x => eqB x s) = k:=zqn1 hk (by rw [← zqd0 hk,h]; exact zqgs _) (fun j hj => by
  have:=hb j hj;rw [zqd0 (by omega)] at this
  exact zqj5 this)
 unfold placeL;rw [e,if_pos hk]
theorem zqkm {l:List ByteArray} {s:ByteArray} (hb:∀ j,j < l.length → txt l j ≠ s):placeL l s = -1:=by
 have e:l.findIdx (fun x => eqB x s) = l.length:=List.findIdx_eq_length.2 (fun x hx => by
  obtain ⟨j,hj,rfl⟩:=List.getElem_of_mem hx;have:=hb j hj;rw [zqd0 hj] at this;exact zqj5 this)
 unfold placeL;rw [e,if_neg (by omega)]
theorem zqmx {l:List ByteArray} {s:ByteArray}:0 ≤ placeL l s ↔ s ∈ l:=by
 unfold placeL
 constructor
 ·intro h
  split at h
  ·rename_i hk;have:=List.findIdx_getElem (w:=hk);have e:l[l.findIdx (fun x => eqB x s)] = s:=zqld.1 this
   rw [← e]; exact List.getElem_mem hk
  ·omega
 ·intro h;have hk:l.findIdx (fun x => eqB x s) < l.length:=List.findIdx_lt_length_of_exists ⟨s,h,zqgs s⟩
  rw [if_pos hk];omega
def twiceAt (l:List ByteArray) (k:Nat):Bool:=decide (0 ≤ placeL (l.take k) (txt l k))
def twiceL (l:List ByteArray):Int:=if (List.range l.length).findIdx (twiceAt l) < l.length then ((List.range l.length).findIdx (twiceAt l):Int) else -1
theorem zqnd {l:List ByteArray} {k:Nat} (hk:k < l.length) (h:twiceAt l k = true) (hb:∀ j,j < k → twiceAt l j = false):twiceL l = k:=by
 have e:(List.range l.length).findIdx (twiceAt l) = k:=zqn1 (by simpa using hk) (by simpa using h) (fun j hj => by simpa using hb j hj)
 unfold twiceL;rw [e,if_pos hk]
theorem zqk3 {l:List ByteArray} (hb:∀ j,j < l.length → twiceAt l j = false):twiceL l = -1:=by
 have e:(List.range l.length).findIdx (twiceAt l) = (List.range l.length).length:=List.findIdx_eq_length.2 (fun x hx => hb x (by simpa using hx))
 rw [List.length_range] at e;unfold twiceL;rw [e,if_neg (by omega)]
def keyL (s:ByteArray):Lit:=.string s.data.toList
def seen (l:List ByteArray) (k:Nat):DataW Unit:=Maps.setOf (.agg []) ((l.take k).map keyL)
theorem zqy7 (a b:ByteArray):(keyL a).sameKey (keyL b) = eqB a b:=by
 by_cases h:a = b
 ·subst h; rw [zqgs]; simp [keyL,Lit.sameKey]
 ·rw [Maps.sameKey_ne (fun e => h (zqjf (by simpa [keyL] using e))),zqj5 h]
theorem zqw3 {l:List ByteArray} {k:Nat} (hk:k < l.length):seen l (k + 1) = (seen l k).put (keyL (txt l k)) (.agg []):=by
 unfold seen;rw [List.take_add_one,List.getElem?_eq_getElem hk,List.map_append,Option.toList,List.map_cons,List.map_nil,Maps.setOf_snoc,zqd0 hk]
theorem zqys (l:List ByteArray) (k:Nat):Maps.has (seen l k) (keyL (txt l k)) = twiceAt l k:=by
 unfold seen;rw [Maps.has_setOf _ _ _ (fun x hx => by obtain ⟨s,-,rfl⟩:=List.mem_map.1 hx; trivial),List.any_map]
 have e:((fun x:Lit => x.sameKey (keyL (txt l k))) ∘ keyL) = fun x => eqB x (txt l k):=funext fun x => zqy7 x _
 rw [e];unfold twiceAt
 by_cases h:txt l k ∈ l.take k
 ·rw [decide_eq_true (zqmx.2 h)];exact List.any_eq_true.2 ⟨_,h,zqgs _⟩
 ·rw [decide_eq_false (fun q => h (zqmx.1 q))]
  refine List.any_eq_false.2 fun x hx => ?_
  rw [zqj5 (a:=x) (fun e => h (by rw [← e]; exact hx))]
  simp
def letB (c:Int):Bool:=decide (97 ≤ c ∧ c ≤ 122)
def digB (c:Int):Bool:=decide (48 ≤ c ∧ c ≤ 57)
def byt (s:ByteArray) (j:Nat):Int:=((s.data.getD j 0).toNat:Int)
theorem zql3 (s:ByteArray) (j:Nat):0 ≤ byt s j ∧ byt s j ≤ 255:=by
 have:=(s.data.getD j 0).toNat_lt;unfold byt; omega
def okAt (s:ByteArray) (j:Nat):Bool:=letB (byt s j) || (decide (0 < j) && (digB (byt s j) || decide (byt s j = 95)))
def nameB (s:ByteArray):Bool:=decide (1 ≤ s.size) && decide (s.size ≤ 16) && (List.range s.size).all (okAt s) && decide (placeL wordsL s < 0)
theorem zqov {s:ByteArray} {j:Nat} (hj:j < s.size) (h:okAt s j = false):nameB s = false:=by
 have:(List.range s.size).all (okAt s) = false:=List.all_eq_false.2 ⟨j,by simpa using hj,by simp [h]⟩
 simp [nameB,this]
theorem zqfi {s:ByteArray} (h:¬ (1 ≤ s.size ∧ s.size ≤ 16)):nameB s = false:=by
 unfold nameB
 by_cases h1:1 ≤ s.size
 ·rw [decide_eq_false (p:=s.size ≤ 16) (by omega)]; simp
 ·rw [decide_eq_false h1]; simp
theorem zqvr {s:ByteArray} (h:0 ≤ placeL wordsL s):nameB s = false:=by
 unfold nameB;rw [decide_eq_false (p:=placeL wordsL s < 0) (by omega)]; simp
theorem zqmp {s:ByteArray} (h:1 ≤ s.size ∧ s.size ≤ 16) (hb:∀ j,j < s.size → okAt s j = true):nameB s = decide (placeL wordsL s < 0):=by
 have:(List.range s.size).all (okAt s) = true:=List.all_eq_true.2 fun x hx => hb x (by simpa using hx)
 unfold nameB;rw [decide_eq_true h.1,decide_eq_true h.2,this];simp
theorem zqpc (a:ByteArray):(a.toList == a.toList) = true:=by simp
theorem zqxc {a b:ByteArray} (h:a ≠ b):(a.toList == b.toList) = false:=by
 have:a.toList ≠ b.toList:=fun e => h (zqjf (by rw [← ByteArray.toList_eq,← ByteArray.toList_eq]; exact e))
 simpa using this
set_option maxRecDepth 100000
open Go.RowKit
set_option linter.unusedVariables false
def Strs (w:World) (v:Value) (l:List ByteArray):Prop :=
 ∃ a cap,v = .slice a l.length cap ∧ l.length ≤ cap ∧ l.length ≤ 9223372036854775807 ∧ (l = [] ∨ ∃ b off,a = some ⟨b,off,none⟩ ∧ b < w.heap.size ∧ ∀ i,i < l.length → w.cell? ⟨b,off + i,none⟩ = some (.string (txt l i)))
theorem Strs.below {w w':World} {v:Value} {l:List ByteArray} (h:Strs w v l) (hb:Below w.heap.size w w'):Strs w' v l:=by
 obtain ⟨a,cap,rfl,h1,h2,h3⟩:=h;refine ⟨a,cap,rfl,h1,h2,?_⟩;rcases h3 with h3 | ⟨b,off,rfl,hlt,hc⟩
 ·exact .inl h3
 ·exact .inr ⟨b,off,rfl,Nat.lt_of_lt_of_le hlt hb.size,fun i hi => (hb.cell (p:=⟨b,off + i,none⟩) hlt).trans (hc i hi)⟩
set_option maxHeartbeats 1000000 in
theorem zqu5 (v:Value) (l:List ByteArray) (s:ByteArray) (w:World) (h:Strs w v l) :
  Calls Tryz.prog 285 #[v,.string s] w fun e w' => e = .returned (.int .i64 (placeL l s)) ∧ w = w':=by
 obtain ⟨a,cap,rfl,h1,h2,h3⟩:=h;rcases h3 with rfl | ⟨b,off,rfl,hlt,hc⟩
 ·go_enter Tryz.func285,Tryz.ntmps285;go_wp2;refine wp_loop_rounds 1 ?_;rw [rounds_succ];go_wp2;go_ret;exact ⟨rfl,rfl⟩
 ·have HC:=zh hc;have HM:=zh (@zqkm l s);have HH:=zh (fun k => @zqmw l s k)
  generalize placeL l s = r at *;clear hc;go_enter Tryz.func285,Tryz.ntmps285;go_wp2;go_loopw [8] (fun i wr => ∃ k:Nat,k ≤ l.length ∧ i = .int .i64 k ∧ w = wr ∧ Hid (∀ j,j < k → txt l j ≠ s)) (fun i _ => l.length - (intOf i).toNat)
  case atStart => exact ⟨0,Nat.zero_le _,rfl,rfl,zh (fun j hj => by omega)⟩
  case round =>
   obtain ⟨k,hk,rfl,rfl,HB⟩:=hrel
   by_cases hlt:k < l.length
   ·have hx:=HC.out k hlt
    by_cases he:txt l k = s
    ·rw [he] at hx;have HR:=zh (HH.out k hlt he HB.out);have e:=zqpc s;clear he;go_wp2;go_ret;rw [HR.out];exact ⟨rfl,rfl⟩
    ·have e:=zqxc (fun q => he q.symm)
     have HB2:=zh (fun j (hj:j < k + 1) => if q:j = k then q ▸ he else HB.out j (by omega))
     generalize txt l k = x at hx e;clear he;go_wp2;go_roundw
     case rel => exact ⟨k + 1,by omega,by go_num,by trivial,HB2⟩
     case measure => simp [intOf]; omega
   ·have:k = l.length:=by omega
    subst this;go_wp2;go_ret;rw [HM.out HB.out];exact ⟨rfl,rfl⟩
theorem zqv9 (v:Value) (l:List ByteArray) (s:ByteArray) (w:World) (h:Strs w v l) :
  Calls Tryz.prog 267 #[v,.string s] w fun e w' => e = .returned (.int .i64 (placeL l s)) ∧ w = w':=by
 have HI:=zh (zqu5 v l s w h);obtain ⟨a,cap,rfl,h1,h2,h3⟩:=h;generalize placeL l s = r at *;clear h3;go_enter Tryz.func267,Tryz.ntmps267;go_wp2_with fail;refine (HI.out).mono ?_; rintro e w' ⟨rfl,rfl⟩;go_wp2_with fail;go_ret;exact ⟨rfl,rfl⟩
set_option maxHeartbeats 1000000 in
theorem zqkt (v:Value) (l:List ByteArray) (s:ByteArray) (w:World) (h:Strs w v l) :
  Calls Tryz.prog 193 #[v,.string s] w fun e w' => e = .returned (.int .i64 (placeL l s)) ∧ w = w':=by
 obtain ⟨a,cap,rfl,h1,h2,h3⟩:=h;rcases h3 with rfl | ⟨b,off,rfl,hlt,hc⟩
 ·go_enter Tryz.func193,Tryz.ntmps193;go_wp2;refine wp_loop_rounds 1 ?_;rw [rounds_succ];go_wp2;go_ret;exact ⟨rfl,rfl⟩
 ·have HC:=zh hc;have HM:=zh (@zqkm l s);have HH:=zh (fun k => @zqmw l s k)
  generalize placeL l s = r at *;clear hc;go_enter Tryz.func193,Tryz.ntmps193;go_wp2;go_loopw [5] (fun i wr => ∃ k:Nat,k ≤ l.length ∧ i = .int .i64 k ∧ w = wr ∧ Hid (∀ j,j < k → txt l j ≠ s)) (fun i _ => l.length - (intOf i).toNat)
  case atStart => exact ⟨0,Nat.zero_le _,rfl,rfl,zh (fun j hj => by omega)⟩
  case round =>
   obtain ⟨k,hk,rfl,rfl,HB⟩:=hrel
   by_cases hlt:k < l.length
   ·have hx:=HC.out k hlt
    by_cases he:txt l k = s
    ·rw [he] at hx;have HR:=zh (HH.out k hlt he HB.out);have e:=zqpc s;clear he;go_wp2;go_ret;rw [HR.out];exact ⟨rfl,rfl⟩
    ·have e:=zqxc he;have HB2:=zh (fun j (hj:j < k + 1) => if q:j = k then q ▸ he else HB.out j (by omega))
     generalize txt l k = x at hx e;clear he;go_wp2;go_roundw
     case rel => exact ⟨k + 1,by omega,by go_num,by trivial,HB2⟩
     case measure => simp [intOf]; omega
   ·have:k = l.length:=by omega
    subst this;go_wp2;go_ret;rw [HM.out HB.out];exact ⟨rfl,rfl⟩
theorem zqjv (w:World) (l:List ByteArray) (t:TypeId) (hl:l.length ≤ 9223372036854775807):Strs (w.alloc (.cells (l.map Value.string).toArray t)) (.slice (some ⟨w.heap.size,0,none⟩) l.length l.length) l:=by
 refine ⟨_,_,rfl,Nat.le_refl _,hl,.inr ⟨w.heap.size,0,rfl,by simp,fun i hi => ?_⟩⟩
 rw [Nat.zero_add,cell_of_row _ _ _ _ _ _ (heap_alloc_new w _)];simp [txt,List.getD,List.getElem?_eq_getElem hi]
def NewList (l:List ByteArray) (w:World) (e:Ending) (w':World):Prop:=∃ v,e = .returned v ∧ Strs w' v l ∧ Below w.heap.size w w'
theorem zqxl (w:World):Calls Tryz.prog 268 #[] w (NewList wordsL w):=by
 have H:=zh (zqjv w wordsL 9 (by decide))
 go_enter Tryz.func268,Tryz.ntmps268;go_wp2;go_ret;exact ⟨_,rfl,H.out,(Below.refl _ _).alloc (Nat.le_refl _) _⟩
theorem zqqa (w:World):Calls Tryz.prog 194 #[] w (NewList wordsL w):=by
 have H:=zh (zqjv w wordsL 9 (by decide))
 go_enter Tryz.func194,Tryz.ntmps194;go_wp2;go_ret;exact ⟨_,rfl,H.out,(Below.refl _ _).alloc (Nat.le_refl _) _⟩
theorem zq03 (s:ByteArray) (w:World) :
  Calls Tryz.prog 246 #[.string s] w fun e w' => e = .returned (.bool (decide (0 ≤ placeL wordsL s))) ∧ Below w.heap.size w w':=by
 have H:=zh (zqxl w);have HP:=zh (fun v w' (h:Strs w' v wordsL) => zqv9 v wordsL s w' h)
 unfold NewList at H;generalize wordsL = l at *;generalize placeL l s = r at *;go_enter Tryz.func246,Tryz.ntmps246;go_wp2_with fail;refine (H.out).mono ?_; rintro e w1 ⟨v,rfl,hs,hb⟩;have HC:=zh (HP.out _ _ hs);have HB:=zh hb;obtain ⟨a,cap,rfl,-⟩:=hs;clear hb HP H;go_wp2_with fail;refine (HC.out).mono ?_; rintro e w2 ⟨rfl,rfl⟩;go_wp2_with fail;go_ret;exact ⟨rfl,HB.out⟩
set_option maxRecDepth 100000
open Go.RowKit
set_option linter.unusedVariables false
theorem zqsn (c:Int) (w:World):Calls Tryz.prog 244 #[.int .u8 c] w fun e w' => e = .returned (.bool (letB c)) ∧ w = w':=by
 by_cases h1:97 ≤ c
 ·by_cases h2:c ≤ 122
  ·have e:letB c = true:=decide_eq_true ⟨h1,h2⟩;rw [e];go_enter Tryz.func244,Tryz.ntmps244;go_wp2;go_ret;exact ⟨rfl,rfl⟩
  ·have e:letB c = false:=decide_eq_false (fun q => h2 q.2)
   rw [e];go_enter Tryz.func244,Tryz.ntmps244;go_wp2;go_ret;exact ⟨rfl,rfl⟩
 ·have e:letB c = false:=decide_eq_false (fun q => h1 q.1)
  rw [e];go_enter Tryz.func244,Tryz.ntmps244;go_wp2;go_ret;exact ⟨rfl,rfl⟩
theorem zqpx (c:Int) (w:World):Calls Tryz.prog 245 #[.int .u8 c] w fun e w' => e = .returned (.bool (digB c)) ∧ w = w':=by
 by_cases h1:48 ≤ c
 ·by_cases h2:c ≤ 57
  ·have e:digB c = true:=decide_eq_true ⟨h1,h2⟩;rw [e];go_enter Tryz.func245,Tryz.ntmps245;go_wp2;go_ret;exact ⟨rfl,rfl⟩
  ·have e:digB c = false:=decide_eq_false (fun q => h2 q.2)
   rw [e];go_enter Tryz.func245,Tryz.ntmps245;go_wp2;go_ret;exact ⟨rfl,rfl⟩
 ·have e:digB c = false:=decide_eq_false (fun q => h1 q.1)
  rw [e];go_enter Tryz.func245,Tryz.ntmps245;go_wp2;go_ret;exact ⟨rfl,rfl⟩
theorem zq1a (r:Int):(!decide (0 ≤ r)) = decide (r < 0):=by
 by_cases q:r < 0
 ·rw [decide_eq_true q,decide_eq_false (by omega)]; rfl
 ·rw [decide_eq_false q,decide_eq_true (by omega)]; rfl
theorem zqlb {s:ByteArray} {k:Nat} (h:k < s.size):(s[k].toNat:Int) = byt s k:=by
 have h2:k < s.data.size:=h;have e:s.data.getD k 0 = s[k]:=by
  rw [ByteArray.getElem_eq_getElem_data];unfold Array.getD;rw [dif_pos h2]; rfl
 unfold byt;rw [e]
set_option maxHeartbeats 1000000 in
theorem zqsd (s:ByteArray) (w:World) (hs:s.size ≤ maxLen) :
  Calls Tryz.prog 208 #[.string s] w fun e w' => e = .returned (.bool (nameB s)) ∧ Below w.heap.size w w':=by
 have HL:=zh (fun c w => zqsn c w)
 have HD:=zh (fun c w => zqpx c w)
 by_cases h1:s.size < 1
 ·rw [zqfi (by omega)]
  have h0:(s.size:Int) < 1:=by omega
  go_enter Tryz.func208,Tryz.ntmps208;go_wp2;go_ret;exact ⟨rfl,Below.refl _ _⟩
 ·by_cases h2:16 < s.size
  ·rw [zqfi (by omega)]
   have h0:¬ (s.size:Int) < 1:=by omega
   have h2':(16:Int) < (s.size:Int):=by omega
   go_enter Tryz.func208,Tryz.ntmps208;go_wp2;go_ret;exact ⟨rfl,Below.refl _ _⟩
  ·have HG:=zh (@zqmp s (by omega))
   have HW:=zh (fun w' => zq03 s w')
   have HBad:=zh (fun j => @zqov s j)
   have h0:¬ (s.size:Int) < 1:=by omega
   have h2':(s.size:Int) ≤ 16:=by omega
   have hp:0 < s.size:=by omega
   go_enter Tryz.func208,Tryz.ntmps208;go_wp2_with fail;rw [zqlb hp];refine (HL.out _ _).mono ?_; rintro e w1 ⟨rfl,rfl⟩
   by_cases hl:letB (byt s 0) = true
   ·have HO:=zh hl;rw [hl];clear hl;go_wp2_with fail;go_loopw [20] (fun i wr => ∃ k:Nat,k ≤ s.size ∧ i = .int .i64 k ∧ w = wr ∧ Hid (∀ j,j < k → okAt s j = true)) (fun i _ => s.size - (intOf i).toNat)
    case atStart => exact ⟨0,Nat.zero_le _,rfl,rfl,zh (fun j hj => by omega)⟩
    case round =>
     obtain ⟨k,hk,rfl,rfl,HB⟩:=hrel
     by_cases hlt:k < s.size
     ·have HN:=zh (fun (q:okAt s k = true) j (hj:j < k + 1) => if e:j = k then e ▸ q else HB.out j (by omega))
      have HF:=zh (fun (q:okAt s k = false) => HBad.out k hlt q)
      have HE:Hid (okAt s k = (letB (byt s k) || (decide (0 < k) && (digB (byt s k) || decide (byt s k = 95))))):=zh rfl
      have HZ:Hid (letB (byt s k) = false → 0 < k):=zh (fun q => by
       by_cases e:k = 0
       ·subst e; rw [HO.out] at q; cases q
       ·omega)
      have HY:=zh (zqlb hlt);have HR:=zql3 s k;generalize byt s k = c at *;go_wp2_with fail;rw [HY.out];refine (HL.out _ _).mono ?_; rintro e w1 ⟨rfl,rfl⟩
      by_cases hl:letB c = true
      ·have HN2:=zh (HN.out (by rw [HE.out,hl]; rfl))
       rw [hl];clear hl;go_wp2_with fail;go_roundw
       case rel => exact ⟨k + 1,by omega,by go_num,by trivial,HN2⟩
       case measure => simp [intOf]; omega
      ·have hl2:letB c = false:=by simpa using hl
       have HP:=zh (HZ.out hl2);rw [hl2] at HE ⊢;clear hl hl2 HZ;go_wp2_with fail;rw [HY.out];refine (HD.out _ _).mono ?_; rintro e w1 ⟨rfl,rfl⟩
       by_cases hd:digB c = true
       ·have HN2:=zh (HN.out (by rw [HE.out,hd,decide_eq_true HP.out]; rfl))
        rw [hd];clear hd;go_wp2_with fail;go_roundw
        case rel => exact ⟨k + 1,by omega,by go_num,by trivial,HN2⟩
        case measure => simp [intOf]; omega
       ·have hd2:digB c = false:=by simpa using hd
        rw [hd2] at HE ⊢;clear hd hd2;have hy:=HY.out
        by_cases hu:c = 95
        ·have HN2:=zh (HN.out (by rw [HE.out,decide_eq_true hu,decide_eq_true HP.out]; rfl))
         subst hu;have hq:((s[k].toNat:Int) == 95) = true:=by rw [hy]; rfl
         clear hy;go_wp2_with fail;go_roundw
         case rel => exact ⟨k + 1,by omega,by go_num,by trivial,HN2⟩
         case measure => simp [intOf]; omega
        ·have HF2:=zh (HF.out (by rw [HE.out,decide_eq_false hu]; simp))
         have hq:((s[k].toNat:Int) == 95) = false:=by rw [hy]; simpa using hu
         clear hy;go_wp2_with fail;go_ret;rw [HF2.out];exact ⟨rfl,Below.refl _ _⟩
     ·have:k = s.size:=by omega
      subst this;have HG2:=zh (HG.out HB.out);go_wp2_with fail;refine (HW.out _).mono ?_; rintro e w1 ⟨rfl,hb⟩;have HBB:=zh hb;clear hb;generalize placeL wordsL s = r at *;go_wp2_with fail;go_ret;rw [HG2.out];exact ⟨congrArg (fun x => Ending.returned (Value.bool x)) (zq1a r),HBB.out⟩
   ·have hl2:letB (byt s 0) = false:=by simpa using hl
    have HR:=zh (HBad.out 0 hp (by unfold okAt; rw [hl2]; rfl))
    rw [hl2];clear hl hl2;go_wp2_with fail;go_ret;rw [HR.out];exact ⟨rfl,Below.refl _ _⟩
set_option maxRecDepth 100000
open Go.RowKit
set_option linter.unusedVariables false
theorem ok_of {s:ByteArray} {k:Nat} {c:Int} (h:byt s k = c):okAt s k = (letB c || (decide (0 < k) && (digB c || decide (c = 95)))):=by rw [← h]; rfl
set_option maxHeartbeats 2000000 in
theorem zq18 (s:ByteArray) (w:World) (hs:s.size ≤ maxLen) :
  Calls Tryz.prog 116 #[.string s] w fun e w' => e = .returned (.bool (nameB s)) ∧ Below w.heap.size w w':=by
 by_cases h1:s.size < 1
 ·rw [zqfi (by omega)]
  have h0:(s.size:Int) < 1:=by omega
  go_enter Tryz.func116,Tryz.ntmps116;go_wp2;go_ret;exact ⟨rfl,Below.refl _ _⟩
 ·by_cases h2:16 < s.size
  ·rw [zqfi (by omega)]
   have h0:¬ (s.size:Int) < 1:=by omega
   have h2':(16:Int) < (s.size:Int):=by omega
   go_enter Tryz.func116,Tryz.ntmps116;go_wp2;go_ret;exact ⟨rfl,Below.refl _ _⟩
  ·have HG:=zh (@zqmp s (by omega))
   have HWd:=zh (@zqvr s);have H:=zh (zqqa w);have HP:=zh (fun v w' (h:Strs w' v wordsL) => zqkt v wordsL s w' h)
   have HBad:=zh (fun j => @zqov s j)
   have h0:¬ (s.size:Int) < 1:=by omega
   have h2':(s.size:Int) ≤ 16:=by omega
   have h3:¬ (16:Int) < (s.size:Int):=by omega
   unfold NewList at H;generalize wordsL = l at *;generalize placeL l s = r at *;go_enter Tryz.func116,Tryz.ntmps116;go_wp2_with fail;refine (H.out).mono ?_; rintro e w1 ⟨v,rfl,hs,hb⟩;have HC:=zh (HP.out _ _ hs);have HBB:=zh hb;obtain ⟨a,cap,rfl,-⟩:=hs;clear hb HP H;go_wp2_with fail;refine (HC.out).mono ?_; rintro e w2 ⟨rfl,rfl⟩
   by_cases hr:0 ≤ r
   ·have HR:=zh (HWd.out hr);go_wp2_with fail;go_ret;rw [HR.out];exact ⟨rfl,HBB.out⟩
   ·have hr1:¬ 0 ≤ r:=hr;have hr2:=zh (show decide (r < 0) = true from decide_eq_true (by omega))
    rw [hr2.out] at HG;go_wp2_with fail;go_loopw [3] (fun i wr => ∃ k:Nat,k ≤ s.size ∧ i = .int .i64 k ∧ w1 = wr ∧ Hid (∀ j,j < k → okAt s j = true)) (fun i _ => s.size - (intOf i).toNat)
    case atStart => exact ⟨0,Nat.zero_le _,rfl,rfl,zh (fun j hj => by omega)⟩
    case round =>
     obtain ⟨k,hk,rfl,rfl,HB⟩:=hrel
     by_cases hlt:k < s.size
     ·have HN:=zh (fun (q:okAt s k = true) j (hj:j < k + 1) => if e:j = k then e ▸ q else HB.out j (by omega))
      have HF:=zh (fun (q:okAt s k = false) => HBad.out k hlt q)
      have HY:=zh (zqlb hlt);have HR:=zql3 s k;have HE:=zh (@ok_of s k _ rfl);generalize byt s k = c at *
      by_cases p1:97 ≤ c ∧ c ≤ 122
      ·have f1:(97:Int) ≤ (s[k].toNat:Int):=by rw [HY.out]; omega
       have f2:(s[k].toNat:Int) ≤ 122:=by rw [HY.out]; omega
       have f3:(48:Int) ≤ (s[k].toNat:Int):=by omega
       have f4:¬ (s[k].toNat:Int) ≤ 57:=by omega
       have f5:((s[k].toNat:Int) == 95) = false:=by rw [HY.out]; simp; omega
       have HN2:=zh (HN.out (by rw [HE.out,show letB c = true from decide_eq_true p1]; rfl))
       go_wp2_with fail;go_roundw
       case rel => exact ⟨k + 1,by omega,by go_num,by trivial,HN2⟩
       case measure => simp [intOf]; omega
      ·have hl:letB c = false:=decide_eq_false p1;rw [hl] at HE;clear hl
       by_cases q:(48 ≤ c ∧ c ≤ 57) ∨ c = 95
       ·have HQ:=zh (show (digB c || decide (c = 95)) = true from by
         rcases q with q | q
         ·rw [show digB c = true from decide_eq_true q]; rfl
         ·rw [decide_eq_true q]; simp)
        have f1:¬ (97:Int) ≤ (s[k].toNat:Int):=by rw [HY.out]; omega
        have f3:(48:Int) ≤ (s[k].toNat:Int):=by rw [HY.out]; omega
        by_cases hz:k = 0
        ·have HF2:=zh (HF.out (by rw [HE.out,decide_eq_false (by omega)]; rfl))
         have f6:((k:Int) == 0) = true:=by simp; omega
         rcases q with q | q
         ·have f4:(s[k].toNat:Int) ≤ 57:=by rw [HY.out]; omega
          clear q hz;go_wp2_with fail;go_ret;rw [HF2.out];exact ⟨rfl,HBB.out⟩
         ·have f4:¬ (s[k].toNat:Int) ≤ 57:=by rw [HY.out]; omega
          have f5:((s[k].toNat:Int) == 95) = true:=by rw [HY.out]; simp; omega
          clear q hz;go_wp2_with fail;go_ret;rw [HF2.out];exact ⟨rfl,HBB.out⟩
        ·have HN2:=zh (HN.out (by rw [HE.out,decide_eq_true (by omega),HQ.out]; rfl))
         have f6:((k:Int) == 0) = false:=by simp; omega
         rcases q with q | q
         ·have f4:(s[k].toNat:Int) ≤ 57:=by rw [HY.out]; omega
          clear q;go_wp2_with fail;go_roundw
          case rel => exact ⟨k + 1,by omega,by go_num,by trivial,HN2⟩
          case measure => simp [intOf]; omega
         ·have f4:¬ (s[k].toNat:Int) ≤ 57:=by rw [HY.out]; omega
          have f5:((s[k].toNat:Int) == 95) = true:=by rw [HY.out]; simp; omega
          clear q;go_wp2_with fail;go_roundw
          case rel => exact ⟨k + 1,by omega,by go_num,by trivial,HN2⟩
          case measure => simp [intOf]; omega
       ·have HF2:=zh (HF.out (by rw [HE.out,show digB c = false from decide_eq_false (fun h => q (.inl h)),decide_eq_false (fun h => q (.inr h))]; simp))
        have f5:((s[k].toNat:Int) == 95) = false:=by rw [HY.out]; simp; omega
        by_cases g1:97 ≤ c
        ·have f1:(97:Int) ≤ (s[k].toNat:Int):=by rw [HY.out]; omega
         have f2:¬ (s[k].toNat:Int) ≤ 122:=by rw [HY.out]; omega
         have f3:(48:Int) ≤ (s[k].toNat:Int):=by omega
         have f4:¬ (s[k].toNat:Int) ≤ 57:=by omega
         go_wp2_with fail;go_ret;rw [HF2.out];exact ⟨rfl,HBB.out⟩
        ·have f1:¬ (97:Int) ≤ (s[k].toNat:Int):=by rw [HY.out]; omega
         by_cases g2:48 ≤ c
         ·have f3:(48:Int) ≤ (s[k].toNat:Int):=by rw [HY.out]; omega
          have f4:¬ (s[k].toNat:Int) ≤ 57:=by rw [HY.out]; omega
          go_wp2_with fail;go_ret;rw [HF2.out];exact ⟨rfl,HBB.out⟩
         ·have f3:¬ (48:Int) ≤ (s[k].toNat:Int):=by rw [HY.out]; omega
          go_wp2_with fail;go_ret;rw [HF2.out];exact ⟨rfl,HBB.out⟩
     ·have:k = s.size:=by omega
      subst this;have HG2:=zh (HG.out HB.out);go_wp2_with fail;go_ret;rw [HG2.out];exact ⟨rfl,HBB.out⟩
set_option maxRecDepth 100000
open Go.RowKit Go.Maps Go.WideMaps
set_option linter.unusedVariables false
theorem lawK:Go.Maps.Keyed Tryz.prog 9:=string_keyed Tryz.underlying9
theorem zeroE (w:World):(zeroValue 259).run Tryz.prog w = .ok (.agg #[]) w:=by kernel_rfl
theorem zq27 {l:List ByteArray} (hs:∀ s ∈ l,s.size ≤ maxLen) {k:Nat} (hk:k < l.length):keyOf Tryz.prog 9 (.string (txt l k)) = some (keyL (txt l k)):=by
 refine keyOf_string_mk Tryz.underlying9 ?_;rw [zqd0 hk];exact hs _ (List.getElem_mem hk)
set_option maxHeartbeats 2000000 in
theorem zqxe (v:Value) (l:List ByteArray) (w:World) (h:Strs w v l) (hl:l.length ≤ 1000000) (hs:∀ s ∈ l,s.size ≤ maxLen) :
  Calls Tryz.prog 147 #[v] w fun e w' => e = .returned (.int .i64 (twiceL l)) ∧ Below w.heap.size w w':=by
 have hmm:=@run_makeMap Tryz.prog;obtain ⟨a,cap,rfl,h1,h2,h3⟩:=h;rcases h3 with rfl | ⟨b,off,rfl,hlt,hc⟩
 ·go_enter Tryz.func147,Tryz.ntmps147;go_wp2;refine wp_loop_rounds 1 ?_;rw [rounds_succ];go_wp2;go_ret;exact ⟨rfl,(Below.refl _ _).alloc (Nat.le_refl _) _⟩
 ·have HC:=zh hc;have HM:=zh (@zqk3 l);have HH:=zh (fun k => @zqnd l k)
  have HK:=zh (fun k => @zq27 l hs k)
  have HS:=zh (fun k => zqys l k)
  have HN:=zh (fun k => @zqw3 l k)
  generalize twiceL l = r at *;clear hc hs;go_enter Tryz.func147,Tryz.ntmps147;go_wp2;go_loopw [11] (fun i wr => ∃ k:Nat,k ≤ l.length ∧ i = .int .i64 k ∧ Hid (wr.ownsMap Tryz.prog 9 (unitElem (H:=Unit)) w.heap.size k (seen l k)) ∧ Hid (Below w.heap.size w wr) ∧ Hid (∀ j,j < k → twiceAt l j = false)) (fun i _ => l.length - (intOf i).toNat)
  case atStart => exact ⟨0,Nat.zero_le _,rfl,zh (World.ownsMap_made _ _ _ _),zh ((Below.refl _ _).alloc (Nat.le_refl _) _),zh (fun j hj => by omega)⟩
  case round =>
   obtain ⟨k,hk,rfl,HO,HB,HJ⟩:=hrel
   by_cases hlk:k < l.length
   ·have hx:wr.cell? ⟨b,off + k,none⟩ = some (.string (txt l k)):=(HB.out.cell (p:=⟨b,off + k,none⟩) hlt).trans (HC.out k hlk);have HKK:=zh (HK.out k hlk);have HSS:=zh (HS.out k);have HNN:=zh (HN.out k hlk);have HQ:=zh (fun q:twiceAt l k = false => fun j (hj:j < k + 1) => if e:j = k then (e ▸ q:twiceAt l j = false) else HJ.out j (by omega))
    have HR:=zh (fun q:twiceAt l k = true => HH.out k hlk q HJ.out)
    generalize twiceAt l k = t at *;generalize txt l k = x at *;generalize seen l k = D at *;have HSz:=zh HB.out.size;go_wp2_with (first
     | (at_lookup; refine wpList_lookup_own_unit _ rfl _ _ 258 rfl 9 259 lawK Tryz.underlying258 (zeroE _) w.heap.size k D rfl HO.out _ _ rfl HKK.out ?_)
     | (at_mapUpdate; refine wpList_mapUpdate_own _ rfl _ _ _ 258 rfl 9 259 lawK Tryz.underlying258 (unitElem (H:=Unit)) w.heap.size k D rfl (HO.out.alloc _) (by unfold maxLen; omega) _ _ _ rfl rfl HKK.out _ [] unitElem_mk ?_; intro w1 hown1 hgrow1)
     | fail)
    ·have ht:t = true:=by rw [← HSS.out]; assumption
     have HR2:=zh (HR.out ht);clear ht;go_ret;rw [HR2.out];exact ⟨rfl,HB.out.alloc HSz.out _⟩
    ·have ht:t = false:=by rw [← HSS.out]; assumption
     have HQ2:=zh (HQ.out ht);have HO1:=zh hown1;rw [← HNN.out] at HO1;have HB1:=zh ((HB.out.alloc HSz.out (.cells #[] 259)).grown hgrow1 (by have:=HSz.out; simp; omega) (fun j hj => by cases hj; exact Nat.le_refl _))
     clear ht hown1 hgrow1;go_wp2;go_roundw
     case rel => exact ⟨k + 1,by omega,by go_num,HO1,HB1,HQ2⟩
     case measure => simp [intOf]; omega
   ·have:k = l.length:=by omega
    subst this;have HR:=zh (HM.out HJ.out);go_wp2;go_ret;rw [HR.out];exact ⟨rfl,HB.out⟩
set_option maxRecDepth 100000
open Go.RowKit
set_option linter.unusedVariables false
theorem Strs.drawn {w w':World} {v:Value} {l:List ByteArray} (h:Strs w v l) (hd:Drawn w w'):Strs w' v l:=h.below hd.below
theorem Strs.upto {w:World} {a:Option Addr} {cap:Nat} {l:List ByteArray} (h:Strs w (.slice a l.length cap) l) {k:Nat} (hk:k ≤ l.length):Strs w (.slice a k cap) (l.take k):=by
 obtain ⟨a',cap',e,h1,h2,h3⟩:=h;injection e with e1 e2 e3;subst e1 e3;have ht:(l.take k).length = k:=by rw [List.length_take]; omega
 refine ⟨a,cap,by rw [ht],by omega,by omega,?_⟩
 rcases h3 with rfl | ⟨b,off,rfl,hlt,hc⟩
 ·exact .inl (by simp)
 ·refine .inr ⟨b,off,rfl,hlt,fun i hi => ?_⟩
  rw [ht] at hi;rw [hc i (by omega)]
  simp [txt,List.getD,hi]
set_option maxHeartbeats 2000000 in
theorem zqtc (v:Value) (l:List ByteArray) (w:World) (h:Strs w v l) :
  Calls Tryz.prog 117 #[v] w fun e w' => e = .returned (.int .i64 (twiceL l)) ∧ Drawn w w':=by
 have HS:=zh h;obtain ⟨a,cap,rfl,h1,h2,h3⟩:=h;rcases h3 with rfl | ⟨b,off,rfl,hlt,hc⟩
 ·go_enter Tryz.func117,Tryz.ntmps117;go_wp2;refine wp_loop_rounds 1 ?_;rw [rounds_succ];go_wp2;go_ret;exact ⟨rfl,Drawn.refl _⟩
 ·have HC:=zh hc;have HM:=zh (@zqk3 l);have HH:=zh (fun k => @zqnd l k)
  generalize twiceL l = r at *;clear hc;go_enter Tryz.func117,Tryz.ntmps117;go_wp2;go_loopw [3] (fun i wr => ∃ k:Nat,k ≤ l.length ∧ i = .int .i64 k ∧ Hid (Drawn w wr) ∧ Hid (∀ j,j < k → twiceAt l j = false)) (fun i _ => l.length - (intOf i).toNat)
  case atStart => exact ⟨0,Nat.zero_le _,rfl,zh (Drawn.refl _),zh (fun j hj => by omega)⟩
  case round =>
   obtain ⟨k,hk,rfl,HD,HJ⟩:=hrel
   by_cases hlk:k < l.length
   ·have hx:wr.cell? ⟨b,off + k,none⟩ = some (.string (txt l k)):=(HD.out.below.cell (p:=⟨b,off + k,none⟩) hlt).trans (HC.out k hlk);have HP:=zh (fun n => (zqkt _ (l.take k) (txt l k) (wr.drewN n) ((HS.out.drawn (HD.out.next n)).upto hk)).mono fun e w' h => show e = .returned (.int .i64 (placeL (l.take k) (txt l k))) ∧ ∃ m,w' = (wr.drewN n).drewN m from ⟨h.1,0,h.2.symm⟩)
    have HQ:=zh (fun q:twiceAt l k = false => fun j (hj:j < k + 1) => if e:j = k then (e ▸ q:twiceAt l j = false) else HJ.out j (by omega))
    have HR:=zh (fun q:twiceAt l k = true => HH.out k hlk q HJ.out)
    have HE:=zh (show twiceAt l k = decide (0 ≤ placeL (l.take k) (txt l k)) from rfl);have HN:=zh (fun n => HD.out.next n)
    generalize placeL (l.take k) (txt l k) = p at *;generalize twiceAt l k = t at *;generalize txt l k = x at *;have hkc:k ≤ cap:=by omega
    go_upto_region 4 with fail;go_quiet ((go_at_call 193; exact Calls.quiet_of (HP.out _)));have HD2:=zh (HN.out nq)
    by_cases hp:0 ≤ p
    ·have HR2:=zh (HR.out (by rw [HE.out]; exact decide_eq_true hp))
     go_wp2;go_ret;rw [HR2.out];exact ⟨rfl,HD2.out⟩
    ·have HQ2:=zh (HQ.out (by rw [HE.out]; exact decide_eq_false hp))
     go_wp2;go_roundw
     case rel => exact ⟨k + 1,by omega,by go_num,HD2,HQ2⟩
     case measure => simp [intOf]; omega
   ·have:k = l.length:=by omega
    subst this;have HR:=zh (HM.out HJ.out);go_wp2;go_ret;rw [HR.out];exact ⟨rfl,HD.out⟩
set_option maxRecDepth 100000
open Go.RowKit
set_option linter.unusedVariables false
set_option maxRecDepth 100000
open Go.RowKit
set_option linter.unusedVariables false
def GivenS (w:World) (v:Value) (l:List ByteArray):Prop:=Strs w v l ∧ ∀ s ∈ l,s.size ≤ maxLen
theorem zqr8 {w:World}:GivenS w (.slice none 0 0) []:=⟨⟨none,0,rfl,by simp,by simp,.inl rfl⟩,fun _ h => by cases h⟩
end Go.Proofs.YtpgchfihedcdkaaGreatDoor
