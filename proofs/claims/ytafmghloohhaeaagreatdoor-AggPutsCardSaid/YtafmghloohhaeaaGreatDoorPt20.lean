/- Contracts that the law leans on: Aggh Aggt. -/
import Derived.Test.YtafmghloohhaeaaGreatDoorPt02
import Derived.Test.YtafmghloohhaeaaGreatDoorPt04
import Derived.Test.YtafmghloohhaeaaGreatDoorPt18
import Derived.Test.YtafmghloohhaeaaGreatDoorPt19
namespace Go.Proofs.YtafmghloohhaeaaGreatDoor
set_option maxRecDepth 100000
open Go.RowKit
set_option linter.unusedVariables false
theorem zq0z {x y:Int} (hx:0 ≤ x ∧ x ≤ 4294967295) (hy:0 ≤ y ∧ y ≤ 4294967295) (h:b4 x = b4 y):x = y:=by
 simp only [b4,List.cons.injEq,and_true] at h;omega
theorem zqnd {a b:List Int} (ha:Wd a) (hb:Wd b):∀ k,topB a k = topB b k → ∀ i,i < k → a.getD (a.length - 1 - i) 0 = b.getD (b.length - 1 - i) 0
 | 0,_,i,hi => by omega
 | k + 1,h,i,hi => by
  rw [zqdw,zqdw] at h;obtain ⟨h1,h2⟩:=List.append_inj h (by rw [zqfz,zqfz])
  by_cases e:i = k
  ·subst e; exact zq0z (ha.getD _) (hb.getD _) h2
  ·exact zqnd ha hb k h1 i (by omega)
theorem zqzk {f g:Nat} {t s:Int} {l:List Int} (h:IsEnc f t l) (k:IsEnc g s l) (hf:f < 32) (hg:g < 32):f = g ∧ t = s:=by
 obtain ⟨a,a1,a2,a3,-,a5⟩:=h;obtain ⟨b,b1,b2,b3,-,b5⟩:=k;rw [a5] at b5;unfold encB at b5;simp only [List.cons_append,List.nil_append,List.cons.injEq] at b5;obtain ⟨e0,e1,e2,e3⟩:=b5;have l1:=zqd3 a;have l2:=zqd3 b;have ew:lowW a = lowW b:=by omega
 have el:a.length = b.length:=by omega
 have ek:a.length - lowW a = b.length - lowW b:=by omega
 rw [← ek] at e3;have ht:=zqnd a1 b1 _ e3;have eab:a = b:=by
  apply List.ext_getElem el;intro i h1 h2;have q:a.getD i 0 = b.getD i 0:=by
   by_cases hi:i < lowW a
   ·rw [zqcw a i hi,zqcw b i (by omega)]
   ·have:=ht (a.length - 1 - i) (by omega)
    rw [show a.length - 1 - (a.length - 1 - i) = i by omega,show b.length - 1 - (a.length - 1 - i) = i by omega] at this
    exact this
  simpa [List.getD,List.getElem?_eq_getElem h1,List.getElem?_eq_getElem h2] using q
 subst eab
 by_cases ht0:t < 0 <;> by_cases hs0:s < 0 <;> simp [ht0,hs0] at e0 <;> omega
theorem zqeg (l:List Int):readF l < 32:=by unfold readF; omega
theorem zqo8 (x:Wh):sameWh x x = true:=by simp [sameWh]
theorem zqrl (x:Nat):sameB x x = true:=by simp [sameB]
theorem zqo7 (x:Re):sameRe x x = true:=by simp [sameRe,zqrl]
theorem JC.same {a b c d:Ce} (h:JC a b c) (k:JC a b d):sameC c d = true :=
 same_iff.2 {
  key:=by rw [h.key,k.key]
  cnt:=by rw [h.cnt,k.cnt]
  li:=by rw [h.li,k.li]
  ln:=by rw [h.ln,k.ln]
  is:=fun i hi2 => by
   rw [h.li] at hi2;rw [(h.is i hi2).same (k.is i hi2)];exact zqo8 _
  ns:=fun i hi2 => by
   rw [h.ln] at hi2;rw [(h.ns i hi2).same (k.ns i hi2)];exact zqo7 _ }
theorem JR.reads {a b x:Re} (h:JR a b x) (hb:Bt5 x.sum) (he:errN x.sum = 0):readF x.sum = readF a.sum ||| readF b.sum ∧ readT x.sum = readT a.sum + readT b.sum :=
 zqzk (zqyg hb he) h.sum (zqeg _) (or_lt (zqeg _) (zqeg _))
theorem JR.bt {a b x:Re} (h:JR a b x):Bt5 x.sum:=h.sum.bt (or_lt (zqeg _) (zqeg _))
theorem zqp4 {a b:Ce} (h:errJ a b = 0):a.key = b.key ∧ a.is.length = b.is.length ∧ a.ns.length = b.ns.length ∧ fitB (a.cnt + b.cnt) = true:=by
 unfold errJ at h
 by_cases h1:a.key = b.key ∧ a.is.length = b.is.length ∧ a.ns.length = b.ns.length
 ·rw [if_pos h1] at h
  by_cases h2:fitB (a.cnt + b.cnt) = true ∧ ∀ k,k < a.is.length → okW (wg a.is k) (wg b.is k) = true
  ·exact ⟨h1.1,h1.2.1,h1.2.2,h2.1⟩
  ·rw [if_neg h2] at h; cases h
 ·rw [if_neg h1] at h; cases h
theorem zqh4 {x:Int} (h:fitB x = true):I64 x:=by unfold fitB at h; unfold I64; simp at h; omega
theorem WhW.wd {x:Wh} (h:WhW x):Wd x.sq:=h.sq
theorem JW.len {x y z:Wh} (h:JW x y z) (hx:Wd x.sq) (hy:Wd y.sq) {n:Nat} (lx:x.sq.length ≤ n) (ly:y.sq.length ≤ n):z.sq.length ≤ n + 1:=by
 refine h.ty.wlen h.wd ?_;rw [h.sq];have h0:=(zqbb hx).1;have h0':=(zqbb hy).1;have h1:=(zqbb hx).2;have h2:=(zqbb hy).2;have e:∀ k,k ≤ n → (4294967296:Int) ^ k ≤ 4294967296 ^ n:=fun k hk => by
  have h3:=Nat.pow_le_pow_right (n:=4294967296) (by decide) hk
  have e1:((4294967296 ^ k:Nat):Int) = 4294967296 ^ k:=by rw [Int.natCast_pow]; rfl
  have e2:((4294967296 ^ n:Nat):Int) = 4294967296 ^ n:=by rw [Int.natCast_pow]; rfl
  rw [← e1,← e2];exact Int.ofNat_le.2 h3
 have e1:=e _ lx;have e2:=e _ ly;rw [Int.pow_succ];omega
theorem JW.w {x y z:Wh} (h:JW x y z) (hx:WhW x) (hy:WhW y) (lz:z.sq.length ≤ 9223372036854775807):WhW z where
 sum:=by rw [h.sum]; exact zqh4 h.f1
 abs:=by rw [h.abs]; exact zqh4 h.f2
 sq:=h.wd
 len:=lz
 mn:=by have:=hx.mn; have:=hy.mn; rw [h.mn]; unfold I64 at *; omega
 mx:=by have:=hx.mx; have:=hy.mx; rw [h.mx]; unfold I64 at *; omega
theorem JR.w {x y z:Re} (h:JR x y z) (hx:ReW x) (hy:ReW y):ReW z where
 sum:=h.bt
 len:=by have:=h.sum.len; omega
 mn:=by rw [h.mn]; split; exact hy.mn; exact hx.mn
 mx:=by rw [h.mx]; split; exact hy.mx; exact hx.mx
theorem JC.short {a b c:Ce} {n:Nat} (h:JC a b c) (ha:CeW a) (hb:CeW b) (sa:ShortC n a) (sb:ShortC n b) (hi:a.is.length = b.is.length):ShortC (n + 1) c where
 li:=by rw [h.li]; exact sa.li
 ln:=by rw [h.ln]; exact sa.ln
 sq:=fun k hk => by
  rw [h.li] at hk;exact (h.is k hk).len (ha.wg hk).wd (hb.wg (by omega)).wd (sa.sq k hk) (sb.sq k (by omega))
theorem JC.w {a b c:Ce} {n:Nat} (h:JC a b c) (ha:CeW a) (hb:CeW b) (sc:ShortC n c) (hn:n ≤ 1000) (e:errJ a b = 0):CeW c:=by
 obtain ⟨q1,q2,q3,q4⟩:=zqp4 e;refine ⟨by rw [h.key]; exact ha.key,by rw [h.cnt]; exact zqh4 q4,fun x hx => ?_,fun x hx => ?_⟩
 ·obtain ⟨k,hk,rfl⟩:=List.getElem_of_mem hx;have hk2:k < a.is.length:=by rw [← h.li]; exact hk
  rw [← zqa5 hk];exact (h.is k hk2).w (ha.wg hk2) (hb.wg (by omega)) (by have:=sc.sq k hk; omega)
 ·obtain ⟨k,hk,rfl⟩:=List.getElem_of_mem hx;have hk2:k < a.ns.length:=by rw [← h.ln]; exact hk
  rw [← zqax hk];exact (h.ns k hk2).w (ha.rg hk2) (hb.rg (by omega))
def tidyB (l:List Int):Bool:=decide (l.length = 0) || decide (l.getD (l.length - 1) 0 ≠ 0)
theorem zqlj {l:List Int}:tidyB l = true ↔ Tidy l:=by
 unfold tidyB Tidy;rw [Bool.or_eq_true,decide_eq_true_iff,decide_eq_true_iff,List.length_eq_zero_iff]
def rightW (x:Wh):Bool:=decide (0 ≤ x.abs) && decide (-x.abs ≤ x.sum) && decide (x.sum ≤ x.abs) && decide (x.mn ≤ x.mx) && decide (x.sq.length ≤ 7) && tidyB x.sq
def rightR (x:Re):Bool:=decide (errN x.sum = 0) && !lessB x.mx x.mn
theorem zqpj {a b:List Int} (ha:Wd a) (hb:Wd b):∀ n,wvN a n = wvN b n → ∀ i,i < n → a.getD i 0 = b.getD i 0
 | 0,_,i,hi => by omega
 | n + 1,h,i,hi => by
  unfold wvN at h;have h1:=zqby ha n;have h2:=zqby hb n;have hp:(0:Int) < 4294967296 ^ n:=Int.pow_pos (by decide)
  have q1:(wvN a n + a.getD n 0 * 4294967296 ^ n) / 4294967296 ^ n = a.getD n 0:=by rw [Int.add_mul_ediv_right _ _ (Int.ne_of_gt hp),Int.ediv_eq_zero_of_lt h1.1 h1.2,Int.zero_add]
  have q2:(wvN b n + b.getD n 0 * 4294967296 ^ n) / 4294967296 ^ n = b.getD n 0:=by rw [Int.add_mul_ediv_right _ _ (Int.ne_of_gt hp),Int.ediv_eq_zero_of_lt h2.1 h2.2,Int.zero_add]
  rw [h,q2] at q1
  by_cases e:i = n
  ·subst e; exact q1.symm
  ·rw [q1] at h;exact zqpj ha hb n (by omega) i (by omega)
theorem zqy2 {a l:List Int} (ha:Wd a) (hl:Wd l) (ht:Tidy l) (hv:wv l = wv a):((a.length:Int) == (l.length:Int)) = tidyB a:=by
 by_cases h:Tidy a
 ·rw [zqlj.2 h,zqbl hl ha ht h hv]; simp
 ·have hb:tidyB a = false:=by
   cases e:tidyB a with
   | false => rfl
   | true => exact absurd (zqlj.1 e) h
  rw [hb,beq_eq_false_iff_ne];intro e;have e2:l.length = a.length:=by omega
  apply h;have e3:l = a:=by
   apply List.ext_getElem e2;intro i h1 h2;unfold wv at hv;rw [e2] at hv;have:=zqpj hl ha _ hv i h2;simpa [List.getD,List.getElem?_eq_getElem h1,List.getElem?_eq_getElem h2] using this
  rw [← e3]; exact ht
theorem zqd6 (w W:World) (h:Below w.heap.size w W) (n:Nat):Below w.heap.size w (W.drewN n):=zqaa h ((Drawn.refl W).next n).below
set_option maxHeartbeats 8000000 in
theorem zqrz (w:World) (x0 x1 x3 x4:Int) (lx:List Int) (p:Option Addr) (c:Nat) (hq:Ints .u32 w (.slice p lx.length c) lx) (hx:WhW ⟨x0,x1,lx,x3,x4⟩) :
  Calls Tryz.prog 69 #[.agg #[.int .i64 x0,.int .i64 x1,.slice p lx.length c,.int .i64 x3,.int .i64 x4]] w fun e w' => e = .returned (.bool (rightW ⟨x0,x1,lx,x3,x4⟩)) ∧ Below w.heap.size w w':=by
 have HT:=zh (fun w1 (hb:Below w.heap.size w w1) (h7:lx.length ≤ 7) => zqne (.slice p lx.length c) lx w1 ⟨hq.below hb,hx.sq,by omega⟩ (wv lx) rfl)
 have HTd:=zh (fun zl (h1:Wd zl) (h2:Tidy zl) (h3:wv zl = wv lx) => zqy2 hx.sq h1 h2 h3)
 have HR:=zh (show rightW ⟨x0,x1,lx,x3,x4⟩ = (decide (0 ≤ x1) && decide (-x1 ≤ x0) && decide (x0 ≤ x1) && decide (x3 ≤ x4) && decide (lx.length ≤ 7) && tidyB lx) from rfl);have HN:=zh (fun (h:0 ≤ x1) => And.intro (show IntKind.i64.wrap (-x1) = -x1 from IntWalk.i64_in _ (by have:=hx.abs.2; simp only at this; omega)) (show wrap64 (-x1) = -x1 from wrap64_in (by have:=hx.abs.2; simp only at this; omega) (by omega)))
 have HX:=zh (show (w.alloc (.cells #[.int .i64 x0,.int .i64 x1,.slice p lx.length c,.int .i64 x3,.int .i64 x4] 45)).heap[w.heap.size]? = some (.cells #[.int .i64 x0,.int .i64 x1,.slice p lx.length c,.int .i64 x3,.int .i64 x4] 45 (0,0)) from heap_alloc_new w _);have HB:=zh (zqab w (.cells #[.int .i64 x0,.int .i64 x1,.slice p lx.length c,.int .i64 x3,.int .i64 x4] 45));unfold Fresh at HT;generalize rightW ⟨x0,x1,lx,x3,x4⟩ = R at *;clear hq hx;go_enter Tryz.func69,Tryz.ntmps69;go_upto_region 1 with fail;generalize w.alloc (.cells #[.int .i64 x0,.int .i64 x1,.slice p lx.length c,.int .i64 x3,.int .i64 x4] 45) = W at *;obtain ⟨e0,e1,e2,e3,e4⟩:=row5 HX.out
 by_cases h1:0 ≤ x1
 ·obtain ⟨i1,i1'⟩:=HN.out h1;have d1:decide (0 ≤ x1) = true:=decide_eq_true h1
  by_cases h2:-x1 ≤ x0
  ·have d2:decide (-x1 ≤ x0) = true:=decide_eq_true h2
   by_cases h3:x0 ≤ x1
   ·have d3:decide (x0 ≤ x1) = true:=decide_eq_true h3
    by_cases h4:x3 ≤ x4
    ·have d4:decide (x3 ≤ x4) = true:=decide_eq_true h4
     by_cases h5:lx.length ≤ 7
     ·have d5:decide ((lx.length:Int) ≤ 7) = true:=decide_eq_true (by omega)
      have hR:=HR.out;rw [d1,d2,d3,d4,decide_eq_true h5] at hR;simp only [Bool.true_and] at hR;have HT7:=zh (fun w1 hb => HT.out w1 hb h5)
      have hk:W.drew.cell? ⟨w.heap.size,0,none⟩ = some (.int .i64 x0) ∧ W.drew.cell? ⟨w.heap.size,1,none⟩ = some (.int .i64 x1) ∧ W.drew.cell? ⟨w.heap.size,2,none⟩ = some (.slice p lx.length c) ∧ W.drew.cell? ⟨w.heap.size,3,none⟩ = some (.int .i64 x3) ∧ W.drew.cell? ⟨w.heap.size,4,none⟩ = some (.int .i64 x4):=⟨e0,e1,e2,e3,e4⟩;have hBw:Below w.heap.size w W.drew:=HB.out.drew;clear e0 e1 e2 e3 e4 HT HN;go_region_held3 (fun w' => w'.cell? ⟨w.heap.size,0,none⟩ = some (.int .i64 x0) ∧ w'.cell? ⟨w.heap.size,1,none⟩ = some (.int .i64 x1) ∧ w'.cell? ⟨w.heap.size,2,none⟩ = some (.slice p lx.length c) ∧ w'.cell? ⟨w.heap.size,3,none⟩ = some (.int .i64 x3) ∧ w'.cell? ⟨w.heap.size,4,none⟩ = some (.int .i64 x4)) (with_reducible exact hk)
       (first | (go_at_call 116; refine (HT7.out _ hBw).mono ?_; rintro e w2 ⟨u,zl,rfl,g1,g2,g3,g4,g5,g6⟩; have hk:=And.intro (cell_later g6 hk.1) (And.intro (cell_later g6 hk.2.1) (And.intro (cell_later g6 hk.2.2.1) (And.intro (cell_later g6 hk.2.2.2.1) (cell_later g6 hk.2.2.2.2)))); have hfin:=HTd.out zl g2 g3 g4; have HB2:=zh (zqaa hBw g6); obtain ⟨pq,cq,rfl⟩:=zqag g1; clear g1 g2 g3 g4 g5 g6))
      go_wp2_with fail;go_ret;exact ⟨by rw [hR]; first | rfl | rw [hfin] | (rw [← hfin]; rfl),HB2.out⟩
     ·have d5:decide ((lx.length:Int) ≤ 7) = false:=decide_eq_false (by omega)
      have hR:R = false:=HR.out.trans (by rw [d1,d2,d3,d4,decide_eq_false h5]; rfl)
      subst hR;go_quiet (fail);have HB2:=zh (zqd6 _ _ HB.out nq);go_wp2;go_ret;exact ⟨rfl,HB2.out⟩
    ·have d4:decide (x3 ≤ x4) = false:=decide_eq_false h4;have hR:R = false:=HR.out.trans (by rw [d1,d2,d3,d4]; rfl)
     subst hR;go_quiet (fail);have HB2:=zh (zqd6 _ _ HB.out nq);go_wp2;go_ret;exact ⟨rfl,HB2.out⟩
   ·have d3:decide (x0 ≤ x1) = false:=decide_eq_false h3;have hR:R = false:=HR.out.trans (by rw [d1,d2,d3]; rfl)
    subst hR;go_quiet (fail);have HB2:=zh (zqd6 _ _ HB.out nq);go_wp2;go_ret;exact ⟨rfl,HB2.out⟩
  ·have d2:decide (-x1 ≤ x0) = false:=decide_eq_false h2;have hR:R = false:=HR.out.trans (by rw [d1,d2]; rfl)
   subst hR;go_quiet (fail);have HB2:=zh (zqd6 _ _ HB.out nq);go_wp2;go_ret;exact ⟨rfl,HB2.out⟩
 ·have d1:decide (0 ≤ x1) = false:=decide_eq_false h1;have hR:R = false:=HR.out.trans (by rw [d1]; rfl)
  subst hR;go_quiet (fail);have HB2:=zh (zqd6 _ _ HB.out nq);go_wp2;go_ret;exact ⟨rfl,HB2.out⟩
set_option maxHeartbeats 4000000 in
theorem zqvo (w:World) (x1 x2:Nat) (lx:List Int) (p:Option Addr) (c:Nat) (hq:Ints .u8 w (.slice p lx.length c) lx) (hx:ReW ⟨lx,x1,x2⟩) :
  Calls Tryz.prog 72 #[.agg #[.slice p lx.length c,.float .f64 x1,.float .f64 x2]] w fun e w' => e = .returned (.bool (rightR ⟨lx,x1,x2⟩)) ∧ Below w.heap.size w w':=by
 have HP:=zh (fun w1 (h:Below w.heap.size w w1) => zqgr p lx.length c lx w1 (hq.below h) hx.sum)
 have HL:=zh (fun w1 => zqgh x2 x1 w1 hx.mx hx.mn)
 have HR:=zh (show rightR ⟨lx,x1,x2⟩ = (decide (errN lx = 0) && !lessB x2 x1) from rfl);have HX:=zh (show (w.alloc (.cells #[.slice p lx.length c,.float .f64 x1,.float .f64 x2] 48)).heap[w.heap.size]? = some (.cells #[.slice p lx.length c,.float .f64 x1,.float .f64 x2] 48 (0,0)) from heap_alloc_new w _);have HB:=zh (zqab w (.cells #[.slice p lx.length c,.float .f64 x1,.float .f64 x2] 48));generalize rightR ⟨lx,x1,x2⟩ = R at *;generalize lessB x2 x1 = ls at *;have hsf:=fun (w:World) (a:Addr) (m:Mode) (k:Nat) => zqba (P:=Tryz.prog) (w:=w) (a:=a) (m:=m) k
 clear hq hx;go_enter Tryz.func72,Tryz.ntmps72;go_upto_region 1 with fail;generalize w.alloc (.cells #[.slice p lx.length c,.float .f64 x1,.float .f64 x2] 48) = W at *;obtain ⟨e0,e1,e2⟩:=row3 HX.out;go_wp2_with fail;refine (HP.out _ HB.out).mono ?_; rintro e w1 hr;obtain ⟨pp,rfl,hb1,-⟩:=zqgv hr;have HB1:=zh (zqaa HB.out hb1);have e1:=cell_later hb1 e1;have e2:=cell_later hb1 e2;clear hr hb1 e0 HP
 by_cases he:errN lx = 0
 ·have hR:R = !ls:=HR.out.trans (by rw [decide_eq_true he]; rfl)
  subst hR;have hE:((errN lx:Int) == 0) = true:=by rw [he]; rfl
  clear he HR;generalize errN lx = E at *;go_wp2_with fail;refine (HL.out _).mono ?_; rintro e w2 ⟨rfl,rfl⟩;go_wp2_with fail;go_ret;exact ⟨rfl,HB1.out⟩
 ·have hR:R = false:=HR.out.trans (by rw [decide_eq_false he]; rfl)
  subst hR;have hE:((errN lx:Int) == 0) = false:=by rw [beq_eq_false_iff_ne]; omega
  clear he HR;generalize errN lx = E at *;go_wp2_with fail;go_ret;exact ⟨rfl,HB1.out⟩
end Go.Proofs.YtafmghloohhaeaaGreatDoor
