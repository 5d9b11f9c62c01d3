/- Contracts that the law leans on: Aggh Aggt Aggu. -/
import Derived.Test.YtmnbljijnbhghaaGreatDoorPt02
import Derived.Test.YtmnbljijnbhghaaGreatDoorPt04
import Derived.Test.YtmnbljijnbhghaaGreatDoorPt09
import Derived.Test.YtmnbljijnbhghaaGreatDoorPt18
import Derived.Test.YtmnbljijnbhghaaGreatDoorPt22
namespace Go.Proofs.YtmnbljijnbhghaaGreatDoor
set_option maxRecDepth 100000
open Go.RowKit
set_option linter.unusedVariables false
theorem zqzu {x y:Int} (hx:0 ≤ x ∧ x ≤ 4294967295) (hy:0 ≤ y ∧ y ≤ 4294967295) (h:b4 x = b4 y):x = y:=by
 simp only [b4,List.cons.injEq,and_true] at h;omega
theorem zqnu {a b:List Int} (ha:Wd a) (hb:Wd b):∀ k,topB a k = topB b k → ∀ i,i < k → a.getD (a.length - 1 - i) 0 = b.getD (b.length - 1 - i) 0
 | 0,_,i,hi => by omega
 | k + 1,h,i,hi => by
  rw [zqck,zqck] at h;obtain ⟨h1,h2⟩:=List.append_inj h (by rw [zqef,zqef])
  by_cases e:i = k
  ·subst e; exact zqzu (ha.getD _) (hb.getD _) h2
  ·exact zqnu ha hb k h1 i (by omega)
theorem zqyf {f g:Nat} {t s:Int} {l:List Int} (h:IsEnc f t l) (k:IsEnc g s l) (hf:f < 32) (hg:g < 32):f = g ∧ t = s:=by
 obtain ⟨a,a1,a2,a3,-,a5⟩:=h;obtain ⟨b,b1,b2,b3,-,b5⟩:=k;rw [a5] at b5;unfold encB at b5;simp only [List.cons_append,List.nil_append,List.cons.injEq] at b5;obtain ⟨e0,e1,e2,e3⟩:=b5;have l1:=zqc1 a;have l2:=zqc1 b;have ew:lowW a = lowW b:=by omega
 have el:a.length = b.length:=by omega
 have ek:a.length - lowW a = b.length - lowW b:=by omega
 rw [← ek] at e3;have ht:=zqnu a1 b1 _ e3;have eab:a = b:=by
  apply List.ext_getElem el;intro i h1 h2;have q:a.getD i 0 = b.getD i 0:=by
   by_cases hi:i < lowW a
   ·rw [zqbp a i hi,zqbp b i (by omega)]
   ·have:=ht (a.length - 1 - i) (by omega)
    rw [show a.length - 1 - (a.length - 1 - i) = i by omega,show b.length - 1 - (a.length - 1 - i) = i by omega] at this
    exact this
  simpa [List.getD,List.getElem?_eq_getElem h1,List.getElem?_eq_getElem h2] using q
 subst eab
 by_cases ht0:t < 0 <;> by_cases hs0:s < 0 <;> simp [ht0,hs0] at e0 <;> omega
theorem zqea (l:List Int):readF l < 32:=by unfold readF; omega
theorem zqps (x:Wh):sameWh x x = true:=by simp [sameWh]
theorem zqrq (x:Nat):sameB x x = true:=by simp [sameB]
theorem zqpr (x:Re):sameRe x x = true:=by simp [sameRe,zqrq]
theorem JC.same {a b c d:Ce} (h:JC a b c) (k:JC a b d):sameC c d = true :=
 same_iff.2 {
  key:=by rw [h.key,k.key]
  cnt:=by rw [h.cnt,k.cnt]
  li:=by rw [h.li,k.li]
  ln:=by rw [h.ln,k.ln]
  is:=fun i hi2 => by
   rw [h.li] at hi2;rw [(h.is i hi2).same (k.is i hi2)];exact zqps _
  ns:=fun i hi2 => by
   rw [h.ln] at hi2;rw [(h.ns i hi2).same (k.ns i hi2)];exact zqpr _ }
theorem JR.reads {a b x:Re} (h:JR a b x) (hb:Bt5 x.sum) (he:errN x.sum = 0):readF x.sum = readF a.sum ||| readF b.sum ∧ readT x.sum = readT a.sum + readT b.sum :=
 zqyf (zqxf hb he) h.sum (zqea _) (or_lt (zqea _) (zqea _))
theorem JR.bt {a b x:Re} (h:JR a b x):Bt5 x.sum:=h.sum.bt (or_lt (zqea _) (zqea _))
theorem zqfp {a b:Ce} (h:errJ a b = 0):a.key = b.key ∧ a.is.length = b.is.length ∧ a.ns.length = b.ns.length ∧ fitB (a.cnt + b.cnt) = true:=by
 unfold errJ at h
 by_cases h1:a.key = b.key ∧ a.is.length = b.is.length ∧ a.ns.length = b.ns.length
 ·rw [if_pos h1] at h
  by_cases h2:fitB (a.cnt + b.cnt) = true ∧ ∀ k,k < a.is.length → okW (wg a.is k) (wg b.is k) = true
  ·exact ⟨h1.1,h1.2.1,h1.2.2,h2.1⟩
  ·rw [if_neg h2] at h; cases h
 ·rw [if_neg h1] at h; cases h
theorem zqh2 {x:Int} (h:fitB x = true):I64 x:=by unfold fitB at h; unfold I64; simp at h; omega
theorem WhW.wd {x:Wh} (h:WhW x):Wd x.sq:=h.sq
theorem JW.len {x y z:Wh} (h:JW x y z) (hx:Wd x.sq) (hy:Wd y.sq) {n:Nat} (lx:x.sq.length ≤ n) (ly:y.sq.length ≤ n):z.sq.length ≤ n + 1:=by
 refine h.ty.wlen h.wd ?_;rw [h.sq];have h0:=(zqas hx).1;have h0':=(zqas hy).1;have h1:=(zqas hx).2;have h2:=(zqas hy).2;have e:∀ k,k ≤ n → (4294967296:Int) ^ k ≤ 4294967296 ^ n:=fun k hk => by
  have h3:=Nat.pow_le_pow_right (n:=4294967296) (by decide) hk
  have e1:((4294967296 ^ k:Nat):Int) = 4294967296 ^ k:=by rw [Int.natCast_pow]; rfl
  have e2:((4294967296 ^ n:Nat):Int) = 4294967296 ^ n:=by rw [Int.natCast_pow]; rfl
  rw [← e1,← e2];exact Int.ofNat_le.2 h3
 have e1:=e _ lx;have e2:=e _ ly;rw [Int.pow_succ];omega
theorem JW.w {x y z:Wh} (h:JW x y z) (hx:WhW x) (hy:WhW y) (lz:z.sq.length ≤ 9223372036854775807):WhW z where
 sum:=by rw [h.sum]; exact zqh2 h.f1
 abs:=by rw [h.abs]; exact zqh2 h.f2
 sq:=h.wd
 len:=lz
 mn:=by have:=hx.mn; have:=hy.mn; rw [h.mn]; unfold I64 at *; omega
 mx:=by have:=hx.mx; have:=hy.mx; rw [h.mx]; unfold I64 at *; omega
theorem JR.w {x y z:Re} (h:JR x y z) (hx:ReW x) (hy:ReW y):ReW z where
 sum:=h.bt
 len:=by have:=h.sum.len; omega
 mn:=by rw [h.mn]; split; exact hy.mn; exact hx.mn
 mx:=by rw [h.mx]; split; exact hy.mx; exact hx.mx
theorem JC.short {a b c:Ce} {n:Nat} (h:JC a b c) (ha:CeW a) (hb:CeW b) (sa:ShortC n a) (sb:ShortC n b) (hi:a.is.length = b.is.length):ShortC (n + 1) c where
 li:=by rw [h.li]; exact sa.li
 ln:=by rw [h.ln]; exact sa.ln
 sq:=fun k hk => by
  rw [h.li] at hk;exact (h.is k hk).len (ha.wg hk).wd (hb.wg (by omega)).wd (sa.sq k hk) (sb.sq k (by omega))
theorem JC.w {a b c:Ce} {n:Nat} (h:JC a b c) (ha:CeW a) (hb:CeW b) (sc:ShortC n c) (hn:n ≤ 1000) (e:errJ a b = 0):CeW c:=by
 obtain ⟨q1,q2,q3,q4⟩:=zqfp e;refine ⟨by rw [h.key]; exact ha.key,by rw [h.cnt]; exact zqh2 q4,fun x hx => ?_,fun x hx => ?_⟩
 ·obtain ⟨k,hk,rfl⟩:=List.getElem_of_mem hx;have hk2:k < a.is.length:=by rw [← h.li]; exact hk
  rw [← zqaq hk];exact (h.is k hk2).w (ha.wg hk2) (hb.wg (by omega)) (by have:=sc.sq k hk; omega)
 ·obtain ⟨k,hk,rfl⟩:=List.getElem_of_mem hx;have hk2:k < a.ns.length:=by rw [← h.ln]; exact hk
  rw [← zqap hk];exact (h.ns k hk2).w (ha.rg hk2) (hb.rg (by omega))
theorem ce0_w:CeW ce0:=⟨by decide,by unfold I64; decide,fun x hx => by simp [ce0] at hx,fun x hx => by simp [ce0] at hx⟩
def tidyB (l:List Int):Bool:=decide (l.length = 0) || decide (l.getD (l.length - 1) 0 ≠ 0)
theorem zqlx {l:List Int}:tidyB l = true ↔ Tidy l:=by
 unfold tidyB Tidy;rw [Bool.or_eq_true,decide_eq_true_iff,decide_eq_true_iff,List.length_eq_zero_iff]
def rightW (x:Wh):Bool:=decide (0 ≤ x.abs) && decide (-x.abs ≤ x.sum) && decide (x.sum ≤ x.abs) && decide (x.mn ≤ x.mx) && decide (x.sq.length ≤ 7) && tidyB x.sq
def rightR (x:Re):Bool:=decide (errN x.sum = 0) && !lessB x.mx x.mn
theorem zqpy {a b:List Int} (ha:Wd a) (hb:Wd b):∀ n,wvN a n = wvN b n → ∀ i,i < n → a.getD i 0 = b.getD i 0
 | 0,_,i,hi => by omega
 | n + 1,h,i,hi => by
  unfold wvN at h;have h1:=zqbk ha n;have h2:=zqbk hb n;have hp:(0:Int) < 4294967296 ^ n:=Int.pow_pos (by decide)
  have q1:(wvN a n + a.getD n 0 * 4294967296 ^ n) / 4294967296 ^ n = a.getD n 0:=by rw [Int.add_mul_ediv_right _ _ (Int.ne_of_gt hp),Int.ediv_eq_zero_of_lt h1.1 h1.2,Int.zero_add]
  have q2:(wvN b n + b.getD n 0 * 4294967296 ^ n) / 4294967296 ^ n = b.getD n 0:=by rw [Int.add_mul_ediv_right _ _ (Int.ne_of_gt hp),Int.ediv_eq_zero_of_lt h2.1 h2.2,Int.zero_add]
  rw [h,q2] at q1
  by_cases e:i = n
  ·subst e; exact q1.symm
  ·rw [q1] at h;exact zqpy ha hb n (by omega) i (by omega)
theorem zqxt {a l:List Int} (ha:Wd a) (hl:Wd l) (ht:Tidy l) (hv:wv l = wv a):((a.length:Int) == (l.length:Int)) = tidyB a:=by
 by_cases h:Tidy a
 ·rw [zqlx.2 h,zqbb hl ha ht h hv]; simp
 ·have hb:tidyB a = false:=by
   cases e:tidyB a with
   | false => rfl
   | true => exact absurd (zqlx.1 e) h
  rw [hb,beq_eq_false_iff_ne];intro e;have e2:l.length = a.length:=by omega
  apply h;have e3:l = a:=by
   apply List.ext_getElem e2;intro i h1 h2;unfold wv at hv;rw [e2] at hv;have:=zqpy hl ha _ hv i h2;simpa [List.getD,List.getElem?_eq_getElem h1,List.getElem?_eq_getElem h2] using this
  rw [← e3]; exact ht
theorem zqa8 (w W:World) (h:Below w.heap.size w W) (n:Nat):Below w.heap.size w (W.drewN n):=zqaa h ((Drawn.refl W).next n).below
set_option maxHeartbeats 8000000 in
theorem zqr2 (w:World) (x0 x1 x3 x4:Int) (lx:List Int) (p:Option Addr) (c:Nat) (hq:Ints .u32 w (.slice p lx.length c) lx) (hx:WhW ⟨x0,x1,lx,x3,x4⟩) :
  Calls Tryz.prog 120 #[.agg #[.int .i64 x0,.int .i64 x1,.slice p lx.length c,.int .i64 x3,.int .i64 x4]] w fun e w' => e = .returned (.bool (rightW ⟨x0,x1,lx,x3,x4⟩)) ∧ Below w.heap.size w w':=by
 have HT:=zh (fun w1 (hb:Below w.heap.size w w1) (h7:lx.length ≤ 7) => zqnv (.slice p lx.length c) lx w1 ⟨hq.below hb,hx.sq,by omega⟩ (wv lx) rfl)
 have HTd:=zh (fun zl (h1:Wd zl) (h2:Tidy zl) (h3:wv zl = wv lx) => zqxt hx.sq h1 h2 h3)
 have HR:=zh (show rightW ⟨x0,x1,lx,x3,x4⟩ = (decide (0 ≤ x1) && decide (-x1 ≤ x0) && decide (x0 ≤ x1) && decide (x3 ≤ x4) && decide (lx.length ≤ 7) && tidyB lx) from rfl);have HN:=zh (fun (h:0 ≤ x1) => And.intro (show IntKind.i64.wrap (-x1) = -x1 from IntWalk.i64_in _ (by have:=hx.abs.2; simp only at this; omega)) (show wrap64 (-x1) = -x1 from wrap64_in (by have:=hx.abs.2; simp only at this; omega) (by omega)))
 have HX:=zh (show (w.alloc (.cells #[.int .i64 x0,.int .i64 x1,.slice p lx.length c,.int .i64 x3,.int .i64 x4] 85)).heap[w.heap.size]? = some (.cells #[.int .i64 x0,.int .i64 x1,.slice p lx.length c,.int .i64 x3,.int .i64 x4] 85 (0,0)) from heap_alloc_new w _);have HB:=zh (zqab w (.cells #[.int .i64 x0,.int .i64 x1,.slice p lx.length c,.int .i64 x3,.int .i64 x4] 85));unfold Fresh at HT;generalize rightW ⟨x0,x1,lx,x3,x4⟩ = R at *;clear hq hx;go_enter Tryz.func120,Tryz.ntmps120;go_upto_region 1 with fail;generalize w.alloc (.cells #[.int .i64 x0,.int .i64 x1,.slice p lx.length c,.int .i64 x3,.int .i64 x4] 85) = W at *;obtain ⟨e0,e1,e2,e3,e4⟩:=row5 HX.out
 by_cases h1:0 ≤ x1
 ·obtain ⟨i1,i1'⟩:=HN.out h1;have d1:decide (0 ≤ x1) = true:=decide_eq_true h1
  by_cases h2:-x1 ≤ x0
  ·have d2:decide (-x1 ≤ x0) = true:=decide_eq_true h2
   by_cases h3:x0 ≤ x1
   ·have d3:decide (x0 ≤ x1) = true:=decide_eq_true h3
    by_cases h4:x3 ≤ x4
    ·have d4:decide (x3 ≤ x4) = true:=decide_eq_true h4
     by_cases h5:lx.length ≤ 7
     ·have d5:decide ((lx.length:Int) ≤ 7) = true:=decide_eq_true (by omega)
      have hR:=HR.out;rw [d1,d2,d3,d4,decide_eq_true h5] at hR;simp only [Bool.true_and] at hR;have HT7:=zh (fun w1 hb => HT.out w1 hb h5)
      have hk:W.drew.cell? ⟨w.heap.size,0,none⟩ = some (.int .i64 x0) ∧ W.drew.cell? ⟨w.heap.size,1,none⟩ = some (.int .i64 x1) ∧ W.drew.cell? ⟨w.heap.size,2,none⟩ = some (.slice p lx.length c) ∧ W.drew.cell? ⟨w.heap.size,3,none⟩ = some (.int .i64 x3) ∧ W.drew.cell? ⟨w.heap.size,4,none⟩ = some (.int .i64 x4):=⟨e0,e1,e2,e3,e4⟩;have hBw:Below w.heap.size w W.drew:=HB.out.drew;clear e0 e1 e2 e3 e4 HT HN;go_region_held3 (fun w' => w'.cell? ⟨w.heap.size,0,none⟩ = some (.int .i64 x0) ∧ w'.cell? ⟨w.heap.size,1,none⟩ = some (.int .i64 x1) ∧ w'.cell? ⟨w.heap.size,2,none⟩ = some (.slice p lx.length c) ∧ w'.cell? ⟨w.heap.size,3,none⟩ = some (.int .i64 x3) ∧ w'.cell? ⟨w.heap.size,4,none⟩ = some (.int .i64 x4)) (with_reducible exact hk)
       (first | (go_at_call 157; refine (HT7.out _ hBw).mono ?_; rintro e w2 ⟨u,zl,rfl,g1,g2,g3,g4,g5,g6⟩; have hk:=And.intro (cell_later g6 hk.1) (And.intro (cell_later g6 hk.2.1) (And.intro (cell_later g6 hk.2.2.1) (And.intro (cell_later g6 hk.2.2.2.1) (cell_later g6 hk.2.2.2.2)))); have hfin:=HTd.out zl g2 g3 g4; have HB2:=zh (zqaa hBw g6); obtain ⟨pq,cq,rfl⟩:=zqae g1; clear g1 g2 g3 g4 g5 g6))
      go_wp2_with fail;go_ret;exact ⟨by rw [hR]; first | rfl | rw [hfin] | (rw [← hfin]; rfl),HB2.out⟩
     ·have d5:decide ((lx.length:Int) ≤ 7) = false:=decide_eq_false (by omega)
      have hR:R = false:=HR.out.trans (by rw [d1,d2,d3,d4,decide_eq_false h5]; rfl)
      subst hR;go_quiet (fail);have HB2:=zh (zqa8 _ _ HB.out nq);go_wp2;go_ret;exact ⟨rfl,HB2.out⟩
    ·have d4:decide (x3 ≤ x4) = false:=decide_eq_false h4;have hR:R = false:=HR.out.trans (by rw [d1,d2,d3,d4]; rfl)
     subst hR;go_quiet (fail);have HB2:=zh (zqa8 _ _ HB.out nq);go_wp2;go_ret;exact ⟨rfl,HB2.out⟩
   ·have d3:decide (x0 ≤ x1) = false:=decide_eq_false h3;have hR:R = false:=HR.out.trans (by rw [d1,d2,d3]; rfl)
    subst hR;go_quiet (fail);have HB2:=zh (zqa8 _ _ HB.out nq);go_wp2;go_ret;exact ⟨rfl,HB2.out⟩
  ·have d2:decide (-x1 ≤ x0) = false:=decide_eq_false h2;have hR:R = false:=HR.out.trans (by rw [d1,d2]; rfl)
   subst hR;go_quiet (fail);have HB2:=zh (zqa8 _ _ HB.out nq);go_wp2;go_ret;exact ⟨rfl,HB2.out⟩
 ·have d1:decide (0 ≤ x1) = false:=decide_eq_false h1;have hR:R = false:=HR.out.trans (by rw [d1]; rfl)
  subst hR;go_quiet (fail);have HB2:=zh (zqa8 _ _ HB.out nq);go_wp2;go_ret;exact ⟨rfl,HB2.out⟩
set_option maxHeartbeats 4000000 in
theorem zqva (w:World) (x1 x2:Nat) (lx:List Int) (p:Option Addr) (c:Nat) (hq:Ints .u8 w (.slice p lx.length c) lx) (hx:ReW ⟨lx,x1,x2⟩) :
  Calls Tryz.prog 123 #[.agg #[.slice p lx.length c,.float .f64 x1,.float .f64 x2]] w fun e w' => e = .returned (.bool (rightR ⟨lx,x1,x2⟩)) ∧ Below w.heap.size w w':=by
 have HP:=zh (fun w1 (h:Below w.heap.size w w1) => zqgn p lx.length c lx w1 (hq.below h) hx.sum)
 have HL:=zh (fun w1 => zqgc x2 x1 w1 hx.mx hx.mn)
 have HR:=zh (show rightR ⟨lx,x1,x2⟩ = (decide (errN lx = 0) && !lessB x2 x1) from rfl);have HX:=zh (show (w.alloc (.cells #[.slice p lx.length c,.float .f64 x1,.float .f64 x2] 90)).heap[w.heap.size]? = some (.cells #[.slice p lx.length c,.float .f64 x1,.float .f64 x2] 90 (0,0)) from heap_alloc_new w _);have HB:=zh (zqab w (.cells #[.slice p lx.length c,.float .f64 x1,.float .f64 x2] 90));generalize rightR ⟨lx,x1,x2⟩ = R at *;generalize lessB x2 x1 = ls at *;have hsf:=fun (w:World) (a:Addr) (m:Mode) (k:Nat) => zqa6 (P:=Tryz.prog) (w:=w) (a:=a) (m:=m) k
 clear hq hx;go_enter Tryz.func123,Tryz.ntmps123;go_upto_region 1 with fail;generalize w.alloc (.cells #[.slice p lx.length c,.float .f64 x1,.float .f64 x2] 90) = W at *;obtain ⟨e0,e1,e2⟩:=row3 HX.out;go_wp2_with fail;refine (HP.out _ HB.out).mono ?_; rintro e w1 hr;obtain ⟨pp,rfl,hb1,-⟩:=zqgr hr;have HB1:=zh (zqaa HB.out hb1);have e1:=cell_later hb1 e1;have e2:=cell_later hb1 e2;clear hr hb1 e0 HP
 by_cases he:errN lx = 0
 ·have hR:R = !ls:=HR.out.trans (by rw [decide_eq_true he]; rfl)
  subst hR;have hE:((errN lx:Int) == 0) = true:=by rw [he]; rfl
  clear he HR;generalize errN lx = E at *;go_wp2_with fail;refine (HL.out _).mono ?_; rintro e w2 ⟨rfl,rfl⟩;go_wp2_with fail;go_ret;exact ⟨rfl,HB1.out⟩
 ·have hR:R = false:=HR.out.trans (by rw [decide_eq_false he]; rfl)
  subst hR;have hE:((errN lx:Int) == 0) = false:=by rw [beq_eq_false_iff_ne]; omega
  clear he HR;generalize errN lx = E at *;go_wp2_with fail;go_ret;exact ⟨rfl,HB1.out⟩
def allW (l:List Wh):Bool:=(List.range l.length).all fun k => rightW (wg l k)
def allR (l:List Re):Bool:=(List.range l.length).all fun k => rightR (rg l k)
theorem zqmh {l:List Wh} (h:∀ k,k < l.length → rightW (wg l k) = true):allW l = true:=List.all_eq_true.2 fun x hx => h x (by simpa using hx)
theorem zqmg {l:List Re} (h:∀ k,k < l.length → rightR (rg l k) = true):allR l = true:=List.all_eq_true.2 fun x hx => h x (by simpa using hx)
theorem zqo9 {l:List Wh} {k:Nat} (hk:k < l.length) (h:rightW (wg l k) = false):allW l = false:=List.all_eq_false.2 ⟨k,by simpa using hk,by simp [h]⟩
theorem zqo8 {l:List Re} {k:Nat} (hk:k < l.length) (h:rightR (rg l k) = false):allR l = false:=List.all_eq_false.2 ⟨k,by simpa using hk,by simp [h]⟩
theorem zqsk (w:World) (x0 x1 x3 x4:Int) (lx:List Int) (p:Option Addr) (c:Nat) (hq:Ints .u32 w (.slice p lx.length c) lx) (hx:WhW ⟨x0,x1,lx,x3,x4⟩) :
  Calls Tryz.prog 119 #[.agg #[.int .i64 x0,.int .i64 x1,.slice p lx.length c,.int .i64 x3,.int .i64 x4]] w fun e w' => e = .returned (.bool (!rightW ⟨x0,x1,lx,x3,x4⟩)) ∧ Below w.heap.size w w':=by
 have HV:=zh (fun w1 (hb:Below w.heap.size w w1) => zqr2 w1 x0 x1 x3 x4 lx p c (hq.below hb) hx)
 have HX:=zh (show (w.alloc (.cells #[.int .i64 x0,.int .i64 x1,.slice p lx.length c,.int .i64 x3,.int .i64 x4] 85)).heap[w.heap.size]? = some (.cells #[.int .i64 x0,.int .i64 x1,.slice p lx.length c,.int .i64 x3,.int .i64 x4] 85 (0,0)) from heap_alloc_new w _);have HB:=zh (zqab w (.cells #[.int .i64 x0,.int .i64 x1,.slice p lx.length c,.int .i64 x3,.int .i64 x4] 85));generalize rightW ⟨x0,x1,lx,x3,x4⟩ = R at *;clear hq hx;go_enter Tryz.func119,Tryz.ntmps119;go_upto_region 1 with fail;generalize w.alloc (.cells #[.int .i64 x0,.int .i64 x1,.slice p lx.length c,.int .i64 x3,.int .i64 x4] 85) = W at *;obtain ⟨f0,f1,f2,f3,f4⟩:=row5 HX.out;go_wp2_with fail;refine (HV.out _ HB.out).mono ?_; rintro e w1 ⟨rfl,hb1⟩;have HB1:=zh (zqaa HB.out hb1);clear f0 f1 f2 f3 f4 hb1;go_wp2_with fail;go_ret;exact ⟨rfl,HB1.out⟩
set_option maxHeartbeats 4000000 in
theorem zqwn (w:World) (u:Value) (l:List Wh) (hu:Wholes w u l) (hw:∀ x ∈ l,WhW x) :
  Calls Tryz.prog 156 #[u,.func (.func 119) #[] #[]] w fun e w' => (∃ r:Int,e = .returned (.int .i64 r) ∧ decide (0 ≤ r) = !allW l) ∧ Below w.heap.size w w':=by
 have HU:=zh hu;have HW:=zh (fun k (hk:k < l.length) => show WhW (wg l k) by rw [zqaq hk]; exact hw _ (List.getElem_mem _))
 have HY:=zh (@zqmh l);have HN:=zh (fun k (hk:k < l.length) (h:rightW (wg l k) = false) => zqo9 hk h)
 obtain ⟨a,cap,rfl,-,hm,-⟩:=hu;generalize allW l = R at *;clear hw;go_enter Tryz.func156,Tryz.ntmps156;go_wp2_with fail;go_loopw [8] (fun iv wr => ∃ k:Nat,k ≤ l.length ∧ iv = .int .i64 k ∧ Hid (Below w.heap.size w wr ∧ ∀ j,j < k → rightW (wg l j) = true)) (fun iv _ => l.length - (intOf iv).toNat)
 case atStart => exact ⟨0,Nat.zero_le _,rfl,zh ⟨Below.refl _ _,fun j hj => by omega⟩⟩
 case round =>
  obtain ⟨k,hk,rfl,HS⟩:=hrel
  by_cases hlk:k < l.length
  ·have hlk':(k:Int) < (l.length:Int):=by omega
   have hle:Hid (k + 1 ≤ l.length):=zh (by omega)
   obtain ⟨b,off,q,rfl,hq⟩:=(HU.out.below HS.out.1).at hlk;obtain ⟨f0,f1,f2,f3,f4,f9⟩:=hq;have HWk:=HW.out k hlk;have HNk:=zh (fun h => HN.out k hlk h)
   have HSn:=zh (fun (h:rightW (wg l k) = true) j (hj:j < k + 1) => show rightW (wg l j) = true from if e:j = k then e ▸ h else HS.out.2 j (by omega))
   have HBk:=zh HS.out.1;generalize wg l k = x at *;obtain ⟨x0,x1,lx,x3,x4⟩:=x;have hf:=f9;obtain ⟨p,c,rfl,-,-⟩:=f9;have HC:=zh (zqsk wr x0 x1 x3 x4 lx p c hf HWk)
   dsimp only at f0 f1 f2 f3 f4
   clear hf HWk HS;generalize rightW ⟨x0,x1,lx,x3,x4⟩ = T at *;go_wp2_with fail;refine HC.out.mono ?_; rintro e w1 ⟨rfl,hb1⟩;have HB1:=zh (zqaa HBk.out hb1);clear hb1 HC f0 f1 f2 f3 f4;cases T with
   | true =>
    have HJ:=zh (HSn.out rfl);go_wp2_with fail;go_roundw
    case rel => exact ⟨k + 1,hle.out,by go_num,zh ⟨HB1.out,HJ.out⟩⟩
    case measure => simp [intOf]; omega
   | false =>
    have hR:=HNk.out rfl;subst hR;go_wp2_with fail;go_ret;exact ⟨⟨_,rfl,decide_eq_true (by omega)⟩,HB1.out⟩
  ·have:k = l.length:=by omega
   subst this;have hR:=HY.out HS.out.2;subst hR;go_wp2_with fail;go_ret;exact ⟨⟨-1,rfl,by decide⟩,HS.out.1⟩
theorem zqvu (w:World) (u:Value) (l:List Wh) (hu:Wholes w u l) (hw:∀ x ∈ l,WhW x) :
  Calls Tryz.prog 118 #[u,.func (.func 119) #[] #[]] w fun e w' => e = .returned (.bool (!allW l)) ∧ Below w.heap.size w w':=by
 have HI:=zh (zqwn w u l hu hw);obtain ⟨a,cap,rfl,-,hm,-⟩:=hu;generalize allW l = R at *;clear hw;go_enter Tryz.func118,Tryz.ntmps118;go_wp2_with fail;refine HI.out.mono ?_; rintro e w1 ⟨⟨r,rfl,hr⟩,hb⟩;have HB:=zh hb;clear hb HI;go_wp2_with fail;go_ret;exact ⟨by first | rfl | rw [← hr] | (rw [← hr]; rfl),HB.out⟩
theorem zqsj (w:World) (x1 x2:Nat) (lx:List Int) (p:Option Addr) (c:Nat) (hq:Ints .u8 w (.slice p lx.length c) lx) (hx:ReW ⟨lx,x1,x2⟩) :
  Calls Tryz.prog 122 #[.agg #[.slice p lx.length c,.float .f64 x1,.float .f64 x2]] w fun e w' => e = .returned (.bool (!rightR ⟨lx,x1,x2⟩)) ∧ Below w.heap.size w w':=by
 have HV:=zh (fun w1 (hb:Below w.heap.size w w1) => zqva w1 x1 x2 lx p c (hq.below hb) hx)
 have HX:=zh (show (w.alloc (.cells #[.slice p lx.length c,.float .f64 x1,.float .f64 x2] 90)).heap[w.heap.size]? = some (.cells #[.slice p lx.length c,.float .f64 x1,.float .f64 x2] 90 (0,0)) from heap_alloc_new w _);have HB:=zh (zqab w (.cells #[.slice p lx.length c,.float .f64 x1,.float .f64 x2] 90));generalize rightR ⟨lx,x1,x2⟩ = R at *;clear hq hx;go_enter Tryz.func122,Tryz.ntmps122;go_upto_region 1 with fail;generalize w.alloc (.cells #[.slice p lx.length c,.float .f64 x1,.float .f64 x2] 90) = W at *;obtain ⟨f0,f1,f2⟩:=row3 HX.out;go_wp2_with fail;refine (HV.out _ HB.out).mono ?_; rintro e w1 ⟨rfl,hb1⟩;have HB1:=zh (zqaa HB.out hb1);clear f0 f1 f2 hb1;go_wp2_with fail;go_ret;exact ⟨rfl,HB1.out⟩
set_option maxHeartbeats 4000000 in
theorem zqwm (w:World) (u:Value) (l:List Re) (hu:Reals w u l) (hw:∀ x ∈ l,ReW x) :
  Calls Tryz.prog 158 #[u,.func (.func 122) #[] #[]] w fun e w' => (∃ r:Int,e = .returned (.int .i64 r) ∧ decide (0 ≤ r) = !allR l) ∧ Below w.heap.size w w':=by
 have HU:=zh hu;have HW:=zh (fun k (hk:k < l.length) => show ReW (rg l k) by rw [zqap hk]; exact hw _ (List.getElem_mem _))
 have HY:=zh (@zqmg l);have HN:=zh (fun k (hk:k < l.length) (h:rightR (rg l k) = false) => zqo8 hk h)
 obtain ⟨a,cap,rfl,-,hm,-⟩:=hu;generalize allR l = R at *;clear hw;go_enter Tryz.func158,Tryz.ntmps158;go_wp2_with fail;go_loopw [8] (fun iv wr => ∃ k:Nat,k ≤ l.length ∧ iv = .int .i64 k ∧ Hid (Below w.heap.size w wr ∧ ∀ j,j < k → rightR (rg l j) = true)) (fun iv _ => l.length - (intOf iv).toNat)
 case atStart => exact ⟨0,Nat.zero_le _,rfl,zh ⟨Below.refl _ _,fun j hj => by omega⟩⟩
 case round =>
  obtain ⟨k,hk,rfl,HS⟩:=hrel
  by_cases hlk:k < l.length
  ·have hlk':(k:Int) < (l.length:Int):=by omega
   have hle:Hid (k + 1 ≤ l.length):=zh (by omega)
   obtain ⟨b,off,q,rfl,hq⟩:=(HU.out.below HS.out.1).at hlk;obtain ⟨f0,f1,f2,f9⟩:=hq;have HWk:=HW.out k hlk;have HNk:=zh (fun h => HN.out k hlk h)
   have HSn:=zh (fun (h:rightR (rg l k) = true) j (hj:j < k + 1) => show rightR (rg l j) = true from if e:j = k then e ▸ h else HS.out.2 j (by omega))
   have HBk:=zh HS.out.1;generalize rg l k = x at *;obtain ⟨lx,x1,x2⟩:=x;have hf:=f9;obtain ⟨p,c,rfl,-,-⟩:=f9;have HC:=zh (zqsj wr x1 x2 lx p c hf HWk)
   dsimp only at f0 f1 f2
   clear hf HWk HS;generalize rightR ⟨lx,x1,x2⟩ = T at *;go_wp2_with fail;refine HC.out.mono ?_; rintro e w1 ⟨rfl,hb1⟩;have HB1:=zh (zqaa HBk.out hb1);clear hb1 HC f0 f1 f2;cases T with
   | true =>
    have HJ:=zh (HSn.out rfl);go_wp2_with fail;go_roundw
    case rel => exact ⟨k + 1,hle.out,by go_num,zh ⟨HB1.out,HJ.out⟩⟩
    case measure => simp [intOf]; omega
   | false =>
    have hR:=HNk.out rfl;subst hR;go_wp2_with fail;go_ret;exact ⟨⟨_,rfl,decide_eq_true (by omega)⟩,HB1.out⟩
  ·have:k = l.length:=by omega
   subst this;have hR:=HY.out HS.out.2;subst hR;go_wp2_with fail;go_ret;exact ⟨⟨-1,rfl,by decide⟩,HS.out.1⟩
theorem zqvt (w:World) (u:Value) (l:List Re) (hu:Reals w u l) (hw:∀ x ∈ l,ReW x) :
  Calls Tryz.prog 121 #[u,.func (.func 122) #[] #[]] w fun e w' => e = .returned (.bool (!allR l)) ∧ Below w.heap.size w w':=by
 have HI:=zh (zqwm w u l hu hw);obtain ⟨a,cap,rfl,-,hm,-⟩:=hu;generalize allR l = R at *;clear hw;go_enter Tryz.func121,Tryz.ntmps121;go_wp2_with fail;refine HI.out.mono ?_; rintro e w1 ⟨⟨r,rfl,hr⟩,hb⟩;have HB:=zh hb;clear hb HI;go_wp2_with fail;go_ret;exact ⟨by first | rfl | rw [← hr] | (rw [← hr]; rfl),HB.out⟩
def validC (S:Sc) (q:Int) (c:Ce):Bool:=decide (c.key < q) && decide (1 ≤ c.cnt) && decide (c.is.length = S.is.length) && decide (c.ns.length = S.ns.length) && allW c.is && allR c.ns
def rightC (S:Sc) (m:Int) (c:Ce):Bool:=decide (checkL S = 0 ∧ m ≤ fullL S.ds) && validC S (keysL S.ds m S.ds.length) c
set_option maxHeartbeats 8000000 in
theorem zqu9 (w:World) (D I M V P Q:Value) (S:Sc) (q:Int) (c:Ce) (h:Sch4 w D I M V S) (h':CeM w P Q c) (hc:CeW c) :
  Calls Tryz.prog 62 #[SchV D I M V,.int .u64 q,CeV c P Q] w fun e w' => e = .returned (.bool (validC S q c)) ∧ Below w.heap.size w w':=by
 have hb1:=zqab w (SchO D I M V);have hb2:=zqab (w.alloc (SchO D I M V)) (CeO c P Q);have HB:=zh (zqaa hb1 hb2);have HX:=zh ((zqau w D I M V).below hb2);have hy:=zqbe (w.alloc (SchO D I M V)) c P Q;rw [World.size_alloc] at hy;have HY:=zh hy;have HW:=zh (fun w1 (hb:Below w.heap.size w w1) => zqvu w1 P c.is (h'.i.below hb) hc.is)
 have HR:=zh (fun w1 (hb:Below w.heap.size w w1) => zqvt w1 Q c.ns (h'.n.below hb) hc.ns)
 have HV:=zh (show validC S q c = (decide (c.key < q) && decide (1 ≤ c.cnt) && decide (c.is.length = S.is.length) && decide (c.ns.length = S.ns.length) && allW c.is && allR c.ns) from rfl);obtain ⟨⟨a1,c1,rfl⟩,⟨a2,c2,rfl⟩,⟨a3,c3,rfl⟩,a4,c4,rfl⟩:=h.slices;obtain ⟨⟨p,k1,rfl⟩,p2,k2,rfl⟩:=h'.slices;generalize validC S q c = R at *;clear h h' hc hb1 hb2 hy;go_enter Tryz.func62,Tryz.ntmps62;go_upto_region 1 with fail;generalize (w.alloc (SchO (.slice a1 S.ds.length c1) (.slice a2 S.is.length c2) (.slice a3 S.ns.length c3) (.slice a4 S.vs.length c4))).alloc (CeO c (.slice p c.is.length k1) (.slice p2 c.ns.length k2)) = W at *;obtain ⟨x0,x1,x2,x3⟩:=HX.out.reads;obtain ⟨y0,y1,y2,y3⟩:=HY.out.reads
 by_cases h1:c.key < q
 ·have d1:decide (c.key < q) = true:=decide_eq_true h1
  by_cases h2:1 ≤ c.cnt
  ·have d2:decide (1 ≤ c.cnt) = true:=decide_eq_true h2
   by_cases h3:c.is.length = S.is.length
   ·have d3:((c.is.length:Int) == (S.is.length:Int)) = true:=by simp [h3]
    by_cases h4:c.ns.length = S.ns.length
    ·have d4:((c.ns.length:Int) == (S.ns.length:Int)) = true:=by simp [h4]
     have hR:R = (allW c.is && allR c.ns):=HV.out.trans (by rw [d1,d2,decide_eq_true h3,decide_eq_true h4]; simp)
     clear HV h1 h2 h3 h4;generalize allW c.is = A at *;generalize allR c.ns = B at *;go_wp2_with fail;refine (HW.out _ HB.out).mono ?_; rintro e w1 ⟨rfl,hb⟩;have HB1:=zh (zqaa HB.out hb);have y3:=cell_later hb y3;clear hb HW;cases A with
     | false =>
      subst hR;clear y3;go_wp2_with fail;go_ret;exact ⟨rfl,HB1.out⟩
     | true =>
      subst hR;go_wp2_with fail;refine (HR.out _ HB1.out).mono ?_; rintro e w2 ⟨rfl,hb⟩;have HB2:=zh (zqaa HB1.out hb);clear hb HR y3;cases R
      ·go_wp2_with fail;go_ret;exact ⟨rfl,HB2.out⟩
      ·go_wp2_with fail;go_ret;exact ⟨rfl,HB2.out⟩
    ·have d4:((c.ns.length:Int) == (S.ns.length:Int)) = false:=by rw [beq_eq_false_iff_ne]; omega
     have hR:R = false:=HV.out.trans (by rw [decide_eq_false h4]; simp)
     subst hR;clear HV h1 h2 h3 h4 HW HR;go_wp2_with fail;go_ret;exact ⟨rfl,HB.out⟩
   ·have d3:((c.is.length:Int) == (S.is.length:Int)) = false:=by rw [beq_eq_false_iff_ne]; omega
    have hR:R = false:=HV.out.trans (by rw [decide_eq_false h3]; simp)
    subst hR;clear HV h1 h2 h3 HW HR;go_wp2_with fail;go_ret;exact ⟨rfl,HB.out⟩
  ·have d2:decide (1 ≤ c.cnt) = false:=decide_eq_false h2;have hR:R = false:=HV.out.trans (by rw [d2]; simp)
   subst hR;clear HV h1 h2 HW HR;go_wp2_with fail;go_ret;exact ⟨rfl,HB.out⟩
 ·have d1:decide (c.key < q) = false:=decide_eq_false h1;have hR:R = false:=HV.out.trans (by rw [d1]; simp)
  subst hR;clear HV h1 HW HR;go_wp2_with fail;go_ret;exact ⟨rfl,HB.out⟩
set_option maxHeartbeats 4000000 in
theorem zqrf (w:World) (D I M V P Q:Value) (S:Sc) (m:Int) (c:Ce) (h:Sch4 w D I M V S) (hw:SWf S) (h':CeM w P Q c) (hc:CeW c) (m0:0 ≤ m) (m1:m ≤ 4294967295) :
  Calls Tryz.prog 35 #[SchV D I M V,.int .u32 m,CeV c P Q] w fun e w' => e = .returned (.bool (rightC S m c)) ∧ Below w.heap.size w w':=by
 have hb1:=zqab w (SchO D I M V);have hb2:=zqab (w.alloc (SchO D I M V)) (CeO c P Q);have HB:=zh (zqaa hb1 hb2);have HX:=zh ((zqau w D I M V).below hb2);have hy:=zqbe (w.alloc (SchO D I M V)) c P Q;rw [World.size_alloc] at hy;have HY:=zh hy;have HK:=zh (fun w1 (hb:Below w.heap.size w w1) => zqfu w1 D I M V S m (h.below hb) hw m0 m1)
 have HV:=zh (fun w1 q (hb:Below w.heap.size w w1) => zqu9 w1 D I M V P Q S q c (h.below hb) (h'.below hb) hc)
 have HR:=zh (show rightC S m c = (decide (checkL S = 0 ∧ m ≤ fullL S.ds) && validC S (keysL S.ds m S.ds.length) c) from rfl);obtain ⟨⟨a1,c1,rfl⟩,⟨a2,c2,rfl⟩,⟨a3,c3,rfl⟩,a4,c4,rfl⟩:=h.slices;obtain ⟨⟨p,k1,rfl⟩,p2,k2,rfl⟩:=h'.slices;generalize rightC S m c = R at *;clear h h' hc hw hb1 hb2 hy m0 m1;go_enter Tryz.func35,Tryz.ntmps35;go_upto_region 1 with fail;generalize (w.alloc (SchO (.slice a1 S.ds.length c1) (.slice a2 S.is.length c2) (.slice a3 S.ns.length c3) (.slice a4 S.vs.length c4))).alloc (CeO c (.slice p c.is.length k1) (.slice p2 c.ns.length k2)) = W at *;obtain ⟨x0,x1,x2,x3⟩:=HX.out.reads;go_wp2_with fail;refine (HK.out _ HB.out).mono ?_; rintro e w1 ⟨rfl,hb⟩;have HB1:=zh (zqaa HB.out hb);obtain ⟨x0,x1,x2,x3⟩:=(HX.out.below hb).reads;obtain ⟨y0,y1,y2,y3⟩:=(HY.out.below hb).reads;clear hb HK
 by_cases hk:checkL S = 0 ∧ m ≤ fullL S.ds
 ·rw [if_pos hk,decide_eq_true hk];have hR:=HR.out;rw [decide_eq_true hk,Bool.true_and] at hR;have HV2:=zh (HV.out w1 (keysL S.ds m S.ds.length) HB1.out);rw [← hR] at HV2;clear hk HR HV hR;generalize keysL S.ds m S.ds.length = K at *;go_wp2_with fail;refine HV2.out.mono ?_; rintro e w2 ⟨rfl,hb⟩;have HB2:=zh (zqaa HB1.out hb);clear hb HV2 x0 x1 x2 x3 y0 y1 y2 y3;go_wp2_with fail;go_ret;exact ⟨rfl,HB2.out⟩
 ·rw [if_neg hk,decide_eq_false hk];have hR:R = false:=HR.out.trans (by rw [decide_eq_false hk]; rfl)
  subst hR;clear hk HR HV x0 x1 x2 x3 y0 y1 y2 y3;go_wp2_with fail;go_ret;exact ⟨rfl,HB1.out⟩
end Go.Proofs.YtmnbljijnbhghaaGreatDoor
