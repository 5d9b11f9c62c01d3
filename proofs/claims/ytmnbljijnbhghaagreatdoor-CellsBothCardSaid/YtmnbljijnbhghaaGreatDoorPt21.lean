/- Contracts that the law leans on: Exjn. -/
import Derived.Deep.DeepCutAuto
import Derived.Test.YtmnbljijnbhghaaGreatDoorPt02
import Derived.Test.YtmnbljijnbhghaaGreatDoorPt16
import Derived.Test.YtmnbljijnbhghaaGreatDoorPt20
namespace Go.Proofs.YtmnbljijnbhghaaGreatDoor
set_option maxRecDepth 100000
open Go.RowKit
set_option linter.unusedVariables false
abbrev zeroSum:Value:=.agg #[.bool false,.bool false,.bool false,.bool false,.bool false,.bool false,.slice none 0 0]
abbrev zeroObj:Obj:=.cells #[.bool false,.bool false,.bool false,.bool false,.bool false,.bool false,.slice none 0 0] 117
def RReadP5 (l:List Int) (w:World) (e:Ending) (w':World):Prop :=
 (errN l ≠ 0 ∧ e = .returned (.tuple #[zeroSum,.int .i64 (errN l)]) ∧ Below w.heap.size w w') ∨ (errN l = 0 ∧ ∃ v,e = .returned (.tuple #[v,.int .i64 0]) ∧ SumV w' v (readF l) (readT l) ∧ Below w.heap.size w w')
theorem zqbu {l:List Int} {w w':World} {k:Nat} (h:errN l = k) (hk:k ≠ 0) (hb:Below w.heap.size w w'):RReadP5 l w (.returned (.tuple #[zeroSum,.int .i64 k])) w':=.inl ⟨by omega,by rw [h],hb⟩
theorem zqkr {x:Int} (h0:0 ≤ x) (h1:x ≤ 63):∃ P Q:Bool,(x / 16 % 2 == 1) = P ∧ (x / 16 % 2 == 0) = !P ∧ (x / 32 == 1) = Q ∧ (P = true ↔ x / 16 % 2 = 1) ∧ (Q = true ↔ x / 32 = 1):=by
 refine ⟨_,_,rfl,?_,rfl,by simp,by simp⟩
 rcases (by omega:x / 16 % 2 = 0 ∨ x / 16 % 2 = 1) with h | h <;> rw [h] <;> rfl
set_option maxHeartbeats 40000000 in
theorem zqro (p:Option Addr) (L c:Nat) (l:List Int) (w:World) (hv:Ints .u8 w (.slice p L c) l) (hb:Bt5 l) (hbad:¬ (okHead L (l.getD 0 0) (l.getD 1 0) (l.getD 2 0) ∧ 3 ≤ L)) :
  Calls Tryz.prog 67 #[.slice p L c] w (RReadP5 l w):=by
 have hL:l.length = L:=by obtain ⟨_,_,e,_⟩:=hv; simp at e; exact e.2.1.symm
 have hcap:L ≤ c:=by obtain ⟨_,_,e,h,_⟩:=hv; simp at e; omega
 obtain ⟨hx0,hx1⟩:=hb.getD 0;obtain ⟨hy0,hy1⟩:=hb.getD 1;obtain ⟨hn0,hn1⟩:=hb.getD 2;have HV:=zh hv;have hHE:=zqh5 hb;rw [hL] at hHE;have H6:=zh (fun w' (hB:Below w.heap.size w w') (ho:¬ okHead L (l.getD 0 0) (l.getD 1 0) (l.getD 2 0)) => zqbu (hHE.2 ho) (by decide) hB)
 have H5:=zh (fun w' (hB:Below w.heap.size w w') (ho:okHead L (l.getD 0 0) (l.getD 1 0) (l.getD 2 0)) (h3:L < 3) => zqbu (k:=5) (by rw [hHE.1 ho,if_pos h3]) (by decide) hB)
 have H0:=zh (fun (ho:okHead L (l.getD 0 0) (l.getD 1 0) (l.getD 2 0)) (h3:¬ L < 3) => show errN l = bodyN (l.drop 3) (cntN l) by rw [hHE.1 ho,if_neg h3])
 have HW0:=zh (zqba w zeroObj zeroObj);clear hHE
 by_cases h0:L = 0
 ·subst h0;have HR:=zh (H5.out _ HW0.out (.inl rfl) (by decide))
  clear hv hb hL HV hx0 hx1 hy0 hy1 hn0 hn1 H6 H5 H0;go_enter Tryz.func67,Tryz.ntmps67;go_wp2_with fail;exact bodyPost_ret (v:=.tuple #[zeroSum,.int .i64 5]) (by simp [results,Tryz.results67,go_sem]) rfl HR.out
 obtain ⟨b,off,hp,hbl,c0⟩:=HV.out.cell (i:=0) (by omega)
 subst hp;rw [Nat.add_zero] at c0;have c1:2 ≤ L → w.cell? ⟨b,off + 1,none⟩ = some (.int .u8 (l.getD 1 0)):=fun h => by
  obtain ⟨b',off',hp',-,c1⟩:=HV.out.cell (i:=1) (by omega)
  simp only [Option.some.injEq,Addr.mk.injEq,and_true] at hp';obtain ⟨rfl,rfl⟩:=hp';exact c1
 have c2:3 ≤ L → w.cell? ⟨b,off + 2,none⟩ = some (.int .u8 (l.getD 2 0)):=fun h => by
  obtain ⟨b',off',hp',-,c1⟩:=HV.out.cell (i:=2) (by omega)
  simp only [Option.some.injEq,Addr.mk.injEq,and_true] at hp';obtain ⟨rfl,rfl⟩:=hp';exact c1
 have HG:=zh (fun (h:errN l = 0) => And.intro (zqgs hb h) (zqdf hb h))
 have HWd:=zh (zqdh hb);have HBt:=zh hb;have HLen:=zh hL;have EF:=zh (show readF l = (l.getD 0 0).toNat % 32 from rfl);have EB:=zh (show readB l = decide (l.getD 0 0 / 32 = 1) from rfl);have eL:lowN l = (l.getD 1 0).toNat:=rfl;have eC:cntN l = (l.getD 2 0).toNat:=rfl;have hb0:b < (w.alloc zeroObj).heap.size:=by simp; omega
 have hLp:(0:Int) < (L:Int):=by omega
 have hW:=zh (zqba w zeroObj zeroObj);generalize l.getD 0 0 = x at *;generalize l.getD 1 0 = y at *;generalize l.getD 2 0 = n at *;clear hv hb hL;have LEAF6:True:=trivial;rcases Int.lt_or_le 63 x with hx | hx
 ·have HR:=zh (H6.out _ HW0.out (by unfold okHead; omega))
  clear H6 H5 H0 HG HWd HBt HLen eL eC c1 c2 hb0 hW;go_enter Tryz.func67,Tryz.ntmps67;go_wp2_with fail;exact bodyPost_ret (v:=.tuple #[zeroSum,.int .i64 6]) (by simp [results,Tryz.results67,go_sem]) rfl HR.out
 obtain ⟨P,Q,hP,hP0,hQ,kP,kQ⟩:=zqkr hx0 hx
 by_cases hq:Q = true ∧ P = false
 ·obtain ⟨rfl,rfl⟩:=hq;have a1:=kQ.1 rfl;have a2:¬ x / 16 % 2 = 1:=fun h => by have:=kP.2 h; cases this
  have HR:=zh (H6.out _ HW0.out (by unfold okHead; omega))
  clear H6 H5 H0 HG HWd HBt HLen eL eC c1 c2 hb0 hW kP kQ;go_enter Tryz.func67,Tryz.ntmps67;go_wp2_with fail;exact bodyPost_ret (v:=.tuple #[zeroSum,.int .i64 6]) (by simp [results,Tryz.results67,go_sem]) rfl HR.out
 have hQP:x / 32 % 2 = 1 → x / 16 % 2 = 1:=fun h => by
  have hq1:=kQ.2 (by omega)
  cases P
  ·exact absurd ⟨hq1,rfl⟩ hq
  ·exact kP.1 rfl
 go_enter Tryz.func67,Tryz.ntmps67;go_upto_region 5 with fail;have b1:decide (63 < x) = false:=decide_eq_false (by omega)
 go_cut [35] (fun s35 wx => s35 = .bool false ∧ wx = (w.alloc zeroObj).alloc zeroObj)
 case first =>
  clear hQP kP kQ;cases P <;> cases Q
  ·go_wp2_with fail
   all_goals (first | (exfalso; omega) | (go_meet; exact ⟨rfl,rfl⟩))
  ·exact absurd ⟨rfl,rfl⟩ hq
  all_goals
   go_wp2_with fail
   all_goals (first | (exfalso; omega) | (go_meet; exact ⟨rfl,rfl⟩))
 case rest =>
  obtain ⟨rfl,rfl⟩:=hcut;rcases (by omega:L = 1 ∨ 2 ≤ L) with h1 | h1
  ·subst h1;have HR:=zh (H5.out _ HW0.out (by unfold okHead; omega) (by decide))
   clear H6 H5 H0 HG HWd HBt HLen eL eC c1 c2 hb0 hW kP kQ;go_wp2_with fail;exact bodyPost_ret (v:=.tuple #[zeroSum,.int .i64 5]) (by simp [results,Tryz.results67,go_sem]) rfl HR.out
  have c1:=c1 h1;have hL1:(1:Int) < (L:Int):=by omega
  rcases Int.lt_or_le 69 y with hy | hy
  ·have HR:=zh (H6.out _ HW0.out (by unfold okHead; omega))
   clear H6 H5 H0 HG HWd HBt HLen eL eC c2 hb0 hW kP kQ;cases P
   all_goals
    go_wp2_with fail;exact bodyPost_ret (v:=.tuple #[zeroSum,.int .i64 6]) (by simp [results,Tryz.results67,go_sem]) rfl HR.out
  by_cases hya:0 < y ∧ P = false
  ·obtain ⟨y0,rfl⟩:=hya;have a2:¬ x / 16 % 2 = 1:=fun h => by have:=kP.2 h; cases this
   have HR:=zh (H6.out _ HW0.out (by unfold okHead; omega))
   clear H6 H5 H0 HG HWd HBt HLen eL eC c2 hb0 hW kP kQ;go_wp2_with fail;exact bodyPost_ret (v:=.tuple #[zeroSum,.int .i64 6]) (by simp [results,Tryz.results67,go_sem]) rfl HR.out
  have hyP:0 < y → x / 16 % 2 = 1:=fun h => by
   cases P
   ·exact absurd ⟨h,rfl⟩ hya
   ·exact kP.1 rfl
  go_upto_region 11 with fail;have b2:decide (69 < y) = false:=decide_eq_false (by omega)
  go_cut [61] (fun s61 wx => s61 = .bool false ∧ wx = (w.alloc zeroObj).alloc zeroObj)
  case first =>
   clear hQP hyP kP kQ;cases P
   ·obtain rfl:y = 0:=by
     rcases (by omega:y = 0 ∨ 0 < y) with h | h
     ·exact h
     ·exact absurd ⟨h,rfl⟩ hya
    have b3:decide ((0:Int) < 0) = false:=by decide
    have b2:decide ((69:Int) < 0) = false:=by decide
    go_wp2_with fail
    all_goals (first | (exfalso; omega) | (go_meet; exact ⟨rfl,rfl⟩))
   ·rcases (by omega:y = 0 ∨ 0 < y) with h | h
    ·have b3:decide (0 < y) = false:=decide_eq_false (by omega)
     go_wp2_with fail
     all_goals (first | (exfalso; omega) | (go_meet; exact ⟨rfl,rfl⟩))
    ·have b3:decide (0 < y) = true:=decide_eq_true h;go_wp2_with fail
     all_goals (first | (exfalso; omega) | (go_meet; exact ⟨rfl,rfl⟩))
  case rest =>
   obtain ⟨rfl,rfl⟩:=hcut;rcases (by omega:L = 2 ∨ 3 ≤ L) with h2 | h2
   ·subst h2;have HR:=zh (H5.out _ HW0.out (by unfold okHead; omega) (by decide))
    clear H6 H5 H0 HG HWd HBt HLen eL eC c2 hb0 hW kP kQ;go_wp2_with fail;exact bodyPost_ret (v:=.tuple #[zeroSum,.int .i64 5]) (by simp [results,Tryz.results67,go_sem]) rfl HR.out
   have c2:=c2 h2;have hL2:(2:Int) < (L:Int):=by omega
   by_cases hs:n + y ≤ 70
   ·have bs:decide (70 < n + y) = false:=decide_eq_false (by omega)
    by_cases hg:(n = 0 ∧ y = 0 ∧ Q = false) ∨ (0 < n ∧ P = true)
    ·have hO:okHead L x y n:=by
      unfold okHead;rcases hg with ⟨g1,g2,g3⟩ | ⟨g1,g2⟩
      ·have:¬ x / 32 = 1:=fun h => by have:=kQ.2 h; rw [g3] at this; cases this
       omega
      ·have:=kP.1 g2;omega
     exact absurd ⟨hO,h2⟩ hbad
    ·have HR:=zh (H6.out _ HW0.out (by
      unfold okHead;intro ho;apply hg;rcases (by omega:n = 0 ∨ 0 < n) with e | e
      ·exact .inl ⟨e,by omega,by
        cases Q; · rfl
        ·have:=kQ.1 rfl; omega⟩
      ·exact .inr ⟨e,kP.2 (by omega)⟩))
     clear H6 H5 H0 HG HWd HBt HLen eL eC hb0 hW kP kQ;rcases (by omega:n = 0 ∨ 0 < n) with rfl | n0
     ·have b4:decide ((0:Int) < 0) = false:=by decide
      rcases (by omega:y = 0 ∨ 0 < y) with rfl | y0
      ·cases Q
       ·exact absurd (.inl ⟨rfl,rfl,rfl⟩) hg
       ·cases P
        all_goals
         go_wp2_with fail
         all_goals (first | (exfalso; omega) | exact bodyPost_ret (v:=.tuple #[zeroSum,.int .i64 6]) (by simp [results,Tryz.results67,go_sem]) rfl HR.out)
      ·have b5:decide (0 < y) = true:=decide_eq_true y0;cases P
       all_goals
        go_wp2_with fail
        all_goals (first | (exfalso; omega) | exact bodyPost_ret (v:=.tuple #[zeroSum,.int .i64 6]) (by simp [results,Tryz.results67,go_sem]) rfl HR.out)
     ·have b4:decide (0 < n) = true:=decide_eq_true n0;cases P
      ·go_wp2_with fail
       all_goals (first | (exfalso; omega) | exact bodyPost_ret (v:=.tuple #[zeroSum,.int .i64 6]) (by simp [results,Tryz.results67,go_sem]) rfl HR.out)
      ·exact absurd (.inr ⟨n0,rfl⟩) hg
   ·have HR:=zh (H6.out _ HW0.out (by unfold okHead; omega))
    have bs:decide (70 < n + y) = true:=decide_eq_true (by omega)
    clear H6 H5 H0 HG HWd HBt HLen eL eC hb0 hW kP kQ;go_wp2_with fail
    all_goals (first | (exfalso; omega) | exact bodyPost_ret (v:=.tuple #[zeroSum,.int .i64 6]) (by simp [results,Tryz.results67,go_sem]) rfl HR.out)
set_option maxRecDepth 100000
open Go.RowKit
set_option linter.unusedVariables false
theorem set_same {a:List Int} {i:Nat} (h:i < a.length) (h0:a.getD i 0 = 0):a.set i 0 = a:=by
 have e:a[i] = 0:=by rw [List.getD,List.getElem?_eq_getElem h] at h0; exact h0
 have:=@List.set_getElem_self _ a i h;rw [e] at this; exact this
theorem zqsv:∀ X:Nat,X < 64 → ((X:Int) % 2 == 1) = bitB (X % 32) 0 ∧ ((X:Int) / 2 % 2 == 1) = bitB (X % 32) 1 ∧ ((X:Int) / 4 % 2 == 1) = bitB (X % 32) 2 ∧ ((X:Int) / 8 % 2 == 1) = bitB (X % 32) 3 ∧ ((X:Int) / 16 % 2 == 1) = bitB (X % 32) 4:=by decide +kernel
theorem put56 {w:World} {N:Nat} {T:TypeId} {a b c d e f g f' g':Value} (h:w.heap[N]? = some (.cells #[a,b,c,d,e,f,g] T (0,0))) :
  ((w.setCell ⟨N,5,none⟩ f').setCell ⟨N,6,none⟩ g').heap[N]? = some (.cells #[a,b,c,d,e,f',g'] T (0,0)):=by
 simp [World.setCell,Array.getElem?_modify,h]
theorem grow56 (w:World) (N:Nat) (f' g':Value):w.grownBy ((w.setCell ⟨N,5,none⟩ f').setCell ⟨N,6,none⟩ g') (some N) :=
 zqa0 (zqax w N 5 f') (zqax _ N 6 g')
set_option maxHeartbeats 40000000 in
theorem zqup (p:Option Addr) (L c:Nat) (l:List Int) (w:World) (hv:Ints .u8 w (.slice p L c) l) (hb:Bt5 l) (hOk:okHead L (l.getD 0 0) (l.getD 1 0) (l.getD 2 0)) (h3:3 ≤ L) :
  Calls Tryz.prog 67 #[.slice p L c] w (RReadP5 l w):=by
 have hL:l.length = L:=by obtain ⟨_,_,e,_⟩:=hv; simp at e; exact e.2.1.symm
 have hcap:L ≤ c:=by obtain ⟨_,_,e,h,_⟩:=hv; simp at e; omega
 obtain ⟨hx0,hx1⟩:=hb.getD 0;obtain ⟨hy0,hy1⟩:=hb.getD 1;obtain ⟨hn0,hn1⟩:=hb.getD 2;have HV:=zh hv;have hHE:=zqh5 hb;rw [hL] at hHE;have H6:=zh (fun w' (hB:Below w.heap.size w w') (ho:¬ okHead L (l.getD 0 0) (l.getD 1 0) (l.getD 2 0)) => zqbu (hHE.2 ho) (by decide) hB)
 have H5:=zh (fun w' (hB:Below w.heap.size w w') (ho:okHead L (l.getD 0 0) (l.getD 1 0) (l.getD 2 0)) (h3:L < 3) => zqbu (k:=5) (by rw [hHE.1 ho,if_pos h3]) (by decide) hB)
 have H0:=zh (fun (ho:okHead L (l.getD 0 0) (l.getD 1 0) (l.getD 2 0)) (h3:¬ L < 3) => show errN l = bodyN (l.drop 3) (cntN l) by rw [hHE.1 ho,if_neg h3])
 have HW0:=zh (zqba w zeroObj zeroObj);clear hHE;obtain ⟨b,off,hp,hbl,c0⟩:=HV.out.cell (i:=0) (by omega)
 subst hp;rw [Nat.add_zero] at c0;have c1:2 ≤ L → w.cell? ⟨b,off + 1,none⟩ = some (.int .u8 (l.getD 1 0)):=fun h => by
  obtain ⟨b',off',hp',-,c1⟩:=HV.out.cell (i:=1) (by omega)
  simp only [Option.some.injEq,Addr.mk.injEq,and_true] at hp';obtain ⟨rfl,rfl⟩:=hp';exact c1
 have c2:3 ≤ L → w.cell? ⟨b,off + 2,none⟩ = some (.int .u8 (l.getD 2 0)):=fun h => by
  obtain ⟨b',off',hp',-,c1⟩:=HV.out.cell (i:=2) (by omega)
  simp only [Option.some.injEq,Addr.mk.injEq,and_true] at hp';obtain ⟨rfl,rfl⟩:=hp';exact c1
 have HG:=zh (fun (h:errN l = 0) => And.intro (zqgs hb h) (zqdf hb h))
 have HWd:=zh (zqdh hb);have HBt:=zh hb;have HLen:=zh hL;have EF:=zh (show readF l = (l.getD 0 0).toNat % 32 from rfl);have EB:=zh (show readB l = decide (l.getD 0 0 / 32 = 1) from rfl);have eL:lowN l = (l.getD 1 0).toNat:=rfl;have eC:cntN l = (l.getD 2 0).toNat:=rfl;have hb0:b < (w.alloc zeroObj).heap.size:=by simp; omega
 have hLp:(0:Int) < (L:Int):=by omega
 have hW:=zh (zqba w zeroObj zeroObj);generalize l.getD 0 0 = x at *;generalize l.getD 1 0 = y at *;generalize l.getD 2 0 = n at *;clear hv hb hL;have LEAF6:True:=trivial;have hx:x ≤ 63:=by unfold okHead at hOk; omega
 obtain ⟨P,Q,hP,hP0,hQ,kP,kQ⟩:=zqkr hx0 hx;have hq:¬ (Q = true ∧ P = false):=by
  rintro ⟨rfl,rfl⟩;have a1:=kQ.1 rfl;have a2:¬ x / 16 % 2 = 1:=fun h => by have:=kP.2 h; cases this
  unfold okHead at hOk; omega
 have hQP:x / 32 % 2 = 1 → x / 16 % 2 = 1:=fun h => by
  have hq1:=kQ.2 (by omega)
  cases P
  ·exact absurd ⟨hq1,rfl⟩ hq
  ·exact kP.1 rfl
 go_enter Tryz.func67,Tryz.ntmps67;go_upto_region 5 with fail;have b1:decide (63 < x) = false:=decide_eq_false (by omega)
 go_cut [35] (fun s35 wx => s35 = .bool false ∧ wx = (w.alloc zeroObj).alloc zeroObj)
 case first =>
  clear hQP kP kQ;cases P <;> cases Q
  ·go_wp2_with fail
   all_goals (first | (exfalso; omega) | (go_meet; exact ⟨rfl,rfl⟩))
  ·exact absurd ⟨rfl,rfl⟩ hq
  all_goals
   go_wp2_with fail
   all_goals (first | (exfalso; omega) | (go_meet; exact ⟨rfl,rfl⟩))
 case rest =>
  obtain ⟨rfl,rfl⟩:=hcut;have h1:2 ≤ L:=by omega
  have c1:=c1 h1;have hL1:(1:Int) < (L:Int):=by omega
  have hy:y ≤ 69:=by unfold okHead at hOk; omega
  have hya:¬ (0 < y ∧ P = false):=by
   rintro ⟨y0,rfl⟩;have a2:¬ x / 16 % 2 = 1:=fun h => by have:=kP.2 h; cases this
   unfold okHead at hOk; omega
  have hyP:0 < y → x / 16 % 2 = 1:=fun h => by
   cases P
   ·exact absurd ⟨h,rfl⟩ hya
   ·exact kP.1 rfl
  go_upto_region 11 with fail;have b2:decide (69 < y) = false:=decide_eq_false (by omega)
  go_cut [61] (fun s61 wx => s61 = .bool false ∧ wx = (w.alloc zeroObj).alloc zeroObj)
  case first =>
   clear hQP hyP kP kQ;cases P
   ·obtain rfl:y = 0:=by
     rcases (by omega:y = 0 ∨ 0 < y) with h | h
     ·exact h
     ·exact absurd ⟨h,rfl⟩ hya
    have b3:decide ((0:Int) < 0) = false:=by decide
    have b2:decide ((69:Int) < 0) = false:=by decide
    go_wp2_with fail
    all_goals (first | (exfalso; omega) | (go_meet; exact ⟨rfl,rfl⟩))
   ·rcases (by omega:y = 0 ∨ 0 < y) with h | h
    ·have b3:decide (0 < y) = false:=decide_eq_false (by omega)
     go_wp2_with fail
     all_goals (first | (exfalso; omega) | (go_meet; exact ⟨rfl,rfl⟩))
    ·have b3:decide (0 < y) = true:=decide_eq_true h;go_wp2_with fail
     all_goals (first | (exfalso; omega) | (go_meet; exact ⟨rfl,rfl⟩))
  case rest =>
   obtain ⟨rfl,rfl⟩:=hcut;have h2:3 ≤ L:=h3;have c2:=c2 h2;have hL2:(2:Int) < (L:Int):=by omega
   have hs:n + y ≤ 70:=by unfold okHead at hOk; omega
   have bs:decide (70 < n + y) = false:=decide_eq_false (by omega)
   have hg:(n = 0 ∧ y = 0 ∧ Q = false) ∨ (0 < n ∧ P = true):=by
    unfold okHead at hOk;rcases (by omega:n = 0 ∨ 0 < n) with e | e
    ·exact .inl ⟨e,by omega,by
      cases Q; · rfl
      ·have:=kQ.1 rfl; omega⟩
    ·exact .inr ⟨e,kP.2 (by omega)⟩
   have hO:=hOk;have HE:=zh (H0.out hO (by omega))
   go_upto_region 16 with fail;go_cut [93] (fun s93 wx => s93 = .bool false ∧ wx = (w.alloc zeroObj).alloc zeroObj)
   case first =>
    clear hQP hyP kP kQ HE hO;rcases hg with ⟨rfl,rfl,rfl⟩ | ⟨g1,rfl⟩
    ·have b4:decide ((0:Int) < 0) = false:=by decide
     have b5:decide ((70:Int) < 0) = false:=by decide
     cases P
     all_goals
      go_wp2_with fail
      all_goals (first | (exfalso; omega) | (go_meet; exact ⟨rfl,rfl⟩))
    ·have b4:decide (0 < n) = true:=decide_eq_true g1;have b5:(n == 0) = false:=by rw [beq_eq_false_iff_ne]; omega
     go_wp2_with fail
     all_goals (first | (exfalso; omega) | (go_meet; exact ⟨rfl,rfl⟩))
   case rest =>
    obtain ⟨rfl,rfl⟩:=hcut;obtain ⟨hx2,hr2⟩:=zqrz w zeroObj zeroObj;have hsz:((w.alloc zeroObj).alloc zeroObj).heap.size = w.heap.size + 1 + 1:=by simp
    have HVW:=zh (HV.out.below HW0.out);have hc0:=(HW0.out.cell (p:=⟨b,off,none⟩) hbl).trans c0;generalize hW0:(w.alloc zeroObj).alloc zeroObj = W at *;obtain ⟨lw,hlw⟩:∃ lw:Nat,lowN l = lw:=⟨_,rfl⟩
    obtain ⟨cn,hcn⟩:∃ cn:Nat,cntN l = cn:=⟨_,rfl⟩
    rw [hlw] at eL;rw [hcn] at eC HE;obtain rfl:y = (lw:Int):=by omega
    obtain rfl:n = (cn:Int):=by omega
    have HX:=zh (And.intro hx2 hr2);have HSt:=zh (show RowAt5 l 0 (List.replicate (lw + cn) 0) by have h:=RowAt5.start l; rw [hlw,hcn] at h; exact h)
    have h1:(lw:Int) + (cn:Int) ≤ 70:=by omega
    obtain ⟨i0,hi,hz0,hz1,hz2⟩:=info_parts Tryz.infoU32;clear hx2 hr2 hW0 H6 H5 H0 hP0 hQP hyP hq hya hg hW hb0 eL eC;go_wp2_with (at_make; refine wpList_make_full _ rfl _ _ 24 rfl W.heap.size 27 i0 (.int .u32 0) 1 Tryz.underlying24 hi hz0 hz1 .i64 .i64 _ _ (lw + cn) rfl rfl (by omega) (by omega) (by rw [hz2]; omega) (by unfold maxLen; omega) (by simp) ?_; intro w0 hown hgrow)
    have hF:=zh (zqbw rfl hown hgrow);clear hown hgrow;go_wp2_with fail;have HBy:=zh (HBt.out.drop 3);go_loopw [11] (fun i wr => ∃ (k:Nat) (out:List Int),k ≤ cn ∧ i = .int .i64 k ∧ Hid (RowAt5 l k out) ∧ Hid (Fill W W.heap.size (lw + cn) out wr) ∧ Hid (3 + 4 * k ≤ L ∧ (0 < k → wAt (l.drop 3) 0 ≠ 0) ∧ (0 < k → k = cn → wAt (l.drop 3) (cn - 1) ≠ 0))) (fun i _ => cn - (intOf i).toNat)
    case atStart => exact ⟨0,_,Nat.zero_le _,rfl,HSt,hF,zh ⟨by omega,fun h => absurd h (by decide),fun h => absurd h (by decide)⟩⟩
    case round =>
     obtain ⟨k,out,hk,rfl,hr,hS,hG⟩:=hrel;clear hF HSt
     by_cases hlt:k < cn
     ·have hlen:out.length = lw + cn:=by have h:=hr.out.1; rw [hlw,hcn] at h; exact h
      obtain ⟨d,hd⟩:∃ d,lw + cn - 1 - k = d:=⟨_,rfl⟩
      have hd2:d < out.length:=by omega
      have h00:out.getD d 0 = 0:=by have h:=hr.out.2.1 d (by rw [hlw,hcn]; omega); exact h
      have HF0:=zh (show Fill W W.heap.size (lw + cn) (out.set d (wPart (l.drop 3) k 0)) wr by rw [show wPart (l.drop 3) k 0 = 0 from rfl,set_same hd2 h00]; exact hS.out)
      have HD:=zh (And.intro hd2 hd);have k70:(k:Int) ≤ 69:=by omega
      have kcn:(k:Int) < (cn:Int):=by omega
      have kL:=hG.out.1;clear h00 hlen hd2;go_wp2_with fail;go_loopw [12] (fun q wx => ∃ j:Nat,j ≤ 4 ∧ q = .int .i64 j ∧ Hid (Fill W W.heap.size (lw + cn) (out.set d (wPart (l.drop 3) k j)) wx) ∧ Hid (3 + 4 * k + j ≤ L)) (fun q _ => 4 - (intOf q).toNat)
      case atStart => exact ⟨0,by decide,rfl,HF0,zh (by omega)⟩
      case round =>
       obtain ⟨j,hj,rfl,hF2,hjL⟩:=hrel;clear HF0
       by_cases hj4:j < 4
       ·have j4:(j:Int) < 4:=by omega
        have a1:IntKind.i64.wrap (4 * (k:Int)) = 4 * k:=IntWalk.i64_in _ (by omega)
        have a2:IntKind.i64.wrap (3 + 4 * (k:Int)) = 3 + 4 * k:=IntWalk.i64_in _ (by omega)
        have a3:IntKind.i64.wrap (3 + 4 * (k:Int) + j) = 3 + 4 * k + j:=IntWalk.i64_in _ (by omega)
        by_cases hat:3 + 4 * k + j < L
        ·have hat':3 + 4 * (k:Int) + j < (L:Int):=by omega
         have hat2:¬ (L:Int) ≤ 3 + 4 * (k:Int) + j:=by omega
         go_upto_region 28 with fail;have hZ:=zqhu HBy.out k j (by omega)
         obtain ⟨ho1,ho2⟩:=hF2.out.cells (j:=d) (by rw [List.length_set]; exact HD.out.1)
         rw [zqe4 _ _ _ HD.out.1] at ho1;have hbyte:=HBt.out.getD (3 + 4 * k + j);have hcb:wr.cell? ⟨b,off + (3 + 4 * k + j),none⟩ = some (.int .u8 (l.getD (3 + 4 * k + j) 0)):=by
          obtain ⟨b',off',hp',-,hc⟩:=HVW.out.cell (i:=3 + 4 * k + j) (by rw [HLen.out]; exact hat)
          simp only [Option.some.injEq,Addr.mk.injEq,and_true] at hp';obtain ⟨rfl,rfl⟩:=hp';exact cell_later hF2.out.2 hc
         have hst:wPart (l.drop 3) k (j + 1) = wPart (l.drop 3) k j * 256 + l.getD (3 + 4 * k + j) 0:=by
          rw [wPart]
          congr 1
          simp [List.getD,Nat.add_assoc]
         have hS1:=hF2.out.set d (wPart (l.drop 3) k (j + 1));rw [List.set_set] at hS1;have hS2:Fill W W.heap.size (lw + cn) (out.set d (wPart (l.drop 3) k (j + 1))) ((wr.setCell ⟨W.heap.size,d,none⟩ (.int .u32 (wPart (l.drop 3) k (j + 1)))).drew):=⟨hS1.1,hS1.2.drew⟩;rw [hsz] at ho1 ho2;have HS2:Hid (Fill W W.heap.size (lw + cn) (out.set d (wPart (l.drop 3) k (j + 1))) ((wr.setCell ⟨w.heap.size + 1 + 1,d,none⟩ (.int .u32 (wPart (l.drop 3) k (j + 1)))).drew)):=zh (by rw [hsz] at hS2 ⊢; exact hS2)
         rw [hst] at HS2;have HZ':=zh hst;clear hst hS1 hS2;generalize wPart (l.drop 3) k j = Z at *;generalize l.getD (3 + 4 * k + j) 0 = v at *;obtain ⟨hd1,hd2⟩:=HD.out;have t0:(d:Int) < (lw:Int) + cn:=by omega
         have j1:IntKind.i64.wrap ((lw:Int) + cn) = (lw:Int) + cn:=IntWalk.i64_in _ (by omega)
         have j3:IntKind.i64.wrap ((lw:Int) + cn - 1) = (lw:Int) + cn - 1:=IntWalk.i64_in _ (by omega)
         have j4:IntKind.i64.wrap ((lw:Int) + cn - 1 - k) = (d:Int):=by rw [IntWalk.i64_in _ (by omega)]; omega
         have p0:0 ≤ 3 + 4 * (k:Int) + j:=by omega
         have p1:(3 + 4 * (k:Int) + j).toNat = 3 + 4 * k + j:=by omega
         have e1:IntKind.u32.wrap (Z * 256) = Z * 256:=by rw [wrap_u32']; omega
         have e2:IntKind.u32.wrap v = v:=by rw [wrap_u32']; omega
         have e3:IntKind.u32.wrap (Z * 256 + v) = Z * 256 + v:=by rw [wrap_u32']; omega
         clear hd1 hd2;go_region;clear ho1 ho2 hcb j1 j3 j4 p0 p1 e1 e2 e3 t0 hZ hbyte hF2;generalize (wr.setCell ⟨w.heap.size + 1 + 1,d,none⟩ (.int .u32 (Z * 256 + v))).drew = w5 at *;go_wp2_with fail;go_roundw
         case rel => exact ⟨j + 1,by omega,by go_num,zh (by rw [HZ'.out]; exact HS2.out),zh (by omega)⟩
         case measure => simp [intOf]; omega
        ·have hat':(L:Int) ≤ 3 + 4 * (k:Int) + j:=by omega
         have K1:Hid (wr.heap[w.heap.size]? = some zeroObj):=zh (zqaf HX.out.1 hF2.out.2);have K2:Hid (wr.heap[w.heap.size + 1]? = some zeroObj):=zh (zqaf HX.out.2 hF2.out.2);have KB:=zh (zqaa HW0.out hF2.out.2);have KE:Hid (errN l = 5):=zh (by
          rw [HE.out];exact zqp7 (k:=k) (j:=j) (by omega) hj4 (by rw [List.length_drop,HLen.out]; omega) hG.out.2.1)
         obtain ⟨⟨q0,q1,q2,q3,q4,q5,q6⟩,-⟩:=zqad K2.out;obtain ⟨⟨r0,r1,r2,r3,r4,r5,r6⟩,f0,f1,f2,f3,f4,f5,f6⟩:=zqad K1.out;go_wp2_with fail;have hf:=set7 (a':=.bool false) (b':=.bool false) (c':=.bool false) (d':=.bool false) (e':=.bool false) (f':=.bool false) (g':=.slice none 0 0) K1.out;have hgr:=grown7 wr w.heap.size (.bool false) (.bool false) (.bool false) (.bool false) (.bool false) (.bool false) (.slice none 0 0);have hbl:=KB.out.grown hgr KB.out.size (fun k hk => by simp only [Option.some.injEq] at hk; omega)
         clear q0 q1 q2 q3 q4 q5 q6 r0 r1 r2 r3 r4 r5 r6 f0 f1 f2 f3 f4 f5 f6 hgr;generalize (((((((wr.setCell ⟨w.heap.size,0,none⟩ (.bool false)).setCell ⟨w.heap.size,1,none⟩ (.bool false)).setCell ⟨w.heap.size,2,none⟩ (.bool false)).setCell ⟨w.heap.size,3,none⟩ (.bool false)).setCell ⟨w.heap.size,4,none⟩ (.bool false)).setCell ⟨w.heap.size,5,none⟩ (.bool false)).setCell ⟨w.heap.size,6,none⟩ (.slice none 0 0)) = w5 at *;obtain ⟨⟨k0,k1,k2,k3,k4,k5,k6⟩,-⟩:=zqad hf;exact bodyPost_ret (v:=.tuple #[zeroSum,.int .i64 5]) (by simp [results,Tryz.results67,go_sem,k0,k1,k2,k3,k4,k5,k6]) rfl (zqbu (k:=5) KE.out (by decide) hbl)
       ·obtain rfl:j = 4:=by omega
        rw [zqj6] at hF2;obtain ⟨ho1,ho2⟩:=hF2.out.cells (j:=d) (by rw [List.length_set]; exact HD.out.1)
        rw [zqe4 _ _ _ HD.out.1,hsz] at ho1;clear ho2;have hN:Hid (RowAt5 l (k + 1) (out.set d (wAt (l.drop 3) k))):=zh (by
         have h:=hr.out.step (by rw [hcn]; exact hlt)
         rw [hlw,hcn,HD.out.2] at h; exact h)
        have hzr:=zql3 HBy.out k;obtain ⟨hd1,hd2⟩:=HD.out;have j1:(lw:Int) + cn - 1 - k = (d:Int):=by omega
        have t0:(d:Int) < (lw:Int) + cn:=by omega
        have hjL2:=hjL.out;clear hd1 hd2 hjL
        by_cases hfl:(k = 0 ∨ k = cn - 1) ∧ wAt (l.drop 3) k = 0
        ·obtain ⟨hfl,hz⟩:=hfl;rw [hz] at ho1;have KE:Hid (errN l = 6):=zh (by
          rw [HE.out];exact zqof (k:=k) (by omega) (by rw [List.length_drop,HLen.out]; omega) hz hfl)
         have K1:Hid (wr.heap[w.heap.size]? = some zeroObj):=zh (zqaf HX.out.1 hF2.out.2);have K2:Hid (wr.heap[w.heap.size + 1]? = some zeroObj):=zh (zqaf HX.out.2 hF2.out.2);have KB:=zh (zqaa HW0.out hF2.out.2);clear hN hzr hz
         by_cases hk0:k = 0
         ·have b1:((k:Int) == 0) = true:=by simp; omega
          have hd0:d = lw + cn - 1:=by have:=HD.out.2; omega
          rw [hd0] at ho1;clear hfl hd0 j1;obtain ⟨⟨q0,q1,q2,q3,q4,q5,q6⟩,-⟩:=zqad K2.out;obtain ⟨⟨r0,r1,r2,r3,r4,r5,r6⟩,f0,f1,f2,f3,f4,f5,f6⟩:=zqad K1.out;go_wp2_with fail;have hf:=set7 (a':=.bool false) (b':=.bool false) (c':=.bool false) (d':=.bool false) (e':=.bool false) (f':=.bool false) (g':=.slice none 0 0) K1.out;have hgr:=grown7 wr w.heap.size (.bool false) (.bool false) (.bool false) (.bool false) (.bool false) (.bool false) (.slice none 0 0);have hbl:=KB.out.grown hgr KB.out.size (fun k hk => by simp only [Option.some.injEq] at hk; omega)
          clear q0 q1 q2 q3 q4 q5 q6 r0 r1 r2 r3 r4 r5 r6 f0 f1 f2 f3 f4 f5 f6 hgr;generalize (((((((wr.setCell ⟨w.heap.size,0,none⟩ (.bool false)).setCell ⟨w.heap.size,1,none⟩ (.bool false)).setCell ⟨w.heap.size,2,none⟩ (.bool false)).setCell ⟨w.heap.size,3,none⟩ (.bool false)).setCell ⟨w.heap.size,4,none⟩ (.bool false)).setCell ⟨w.heap.size,5,none⟩ (.bool false)).setCell ⟨w.heap.size,6,none⟩ (.slice none 0 0)) = w5 at *;obtain ⟨⟨k0,k1,k2,k3,k4,k5,k6⟩,-⟩:=zqad hf;exact bodyPost_ret (v:=.tuple #[zeroSum,.int .i64 6]) (by simp [results,Tryz.results67,go_sem,k0,k1,k2,k3,k4,k5,k6]) rfl (zqbu (k:=6) KE.out (by decide) hbl)
         ·have b1:((k:Int) == 0) = false:=by simp; omega
          have b2:((k:Int) == (cn:Int) - 1) = true:=by simp; omega
          clear hfl;obtain ⟨⟨q0,q1,q2,q3,q4,q5,q6⟩,-⟩:=zqad K2.out;obtain ⟨⟨r0,r1,r2,r3,r4,r5,r6⟩,f0,f1,f2,f3,f4,f5,f6⟩:=zqad K1.out;go_wp2_with fail;have hf:=set7 (a':=.bool false) (b':=.bool false) (c':=.bool false) (d':=.bool false) (e':=.bool false) (f':=.bool false) (g':=.slice none 0 0) K1.out;have hgr:=grown7 wr w.heap.size (.bool false) (.bool false) (.bool false) (.bool false) (.bool false) (.bool false) (.slice none 0 0);have hbl:=KB.out.grown hgr KB.out.size (fun k hk => by simp only [Option.some.injEq] at hk; omega)
          clear q0 q1 q2 q3 q4 q5 q6 r0 r1 r2 r3 r4 r5 r6 f0 f1 f2 f3 f4 f5 f6 hgr;generalize (((((((wr.setCell ⟨w.heap.size,0,none⟩ (.bool false)).setCell ⟨w.heap.size,1,none⟩ (.bool false)).setCell ⟨w.heap.size,2,none⟩ (.bool false)).setCell ⟨w.heap.size,3,none⟩ (.bool false)).setCell ⟨w.heap.size,4,none⟩ (.bool false)).setCell ⟨w.heap.size,5,none⟩ (.bool false)).setCell ⟨w.heap.size,6,none⟩ (.slice none 0 0)) = w5 at *;obtain ⟨⟨k0,k1,k2,k3,k4,k5,k6⟩,-⟩:=zqad hf;exact bodyPost_ret (v:=.tuple #[zeroSum,.int .i64 6]) (by simp [results,Tryz.results67,go_sem,k0,k1,k2,k3,k4,k5,k6]) rfl (zqbu (k:=6) KE.out (by decide) hbl)
        ·have hnx:Hid (3 + 4 * (k + 1) ≤ L ∧ (0 < k + 1 → wAt (l.drop 3) 0 ≠ 0) ∧ (0 < k + 1 → k + 1 = cn → wAt (l.drop 3) (cn - 1) ≠ 0)):=zh ⟨by omega,fun _ => by
           by_cases h0:k = 0
           ·intro h; subst h0; exact hfl ⟨.inl rfl,h⟩
           ·exact hG.out.2.1 (by omega),fun _ h1 h => hfl ⟨.inr (by omega),by rw [show k = cn - 1 by omega]; exact h⟩⟩
         by_cases hkk:k = 0 ∨ k = cn - 1
         ·have hz:¬ wAt (l.drop 3) k = 0:=fun h => hfl ⟨hkk,h⟩
          clear hfl hG;generalize wAt (l.drop 3) k = z at *;have b3:(z == 0) = false:=by simpa using hz
          clear hz
          by_cases hk0:k = 0
          ·have b1:((k:Int) == 0) = true:=by simp; omega
           have hd0:d = lw + cn - 1:=by have:=HD.out.2; omega
           rw [hd0] at ho1;clear hkk hd0 j1;go_wp2_with fail;go_roundw
           case rel => exact ⟨k + 1,_,by omega,by go_num,hN,hF2,hnx⟩
           case measure => simp [intOf]; omega
          ·have b1:((k:Int) == 0) = false:=by simp; omega
           have b2:((k:Int) == (cn:Int) - 1) = true:=by simp; omega
           clear hkk;go_wp2_with fail;go_roundw
           case rel => exact ⟨k + 1,_,by omega,by go_num,hN,hF2,hnx⟩
           case measure => simp [intOf]; omega
         ·have b1:((k:Int) == 0) = false:=by simp; omega
          have b2:((k:Int) == (cn:Int) - 1) = false:=by simp; omega
          clear hfl hG hkk;generalize wAt (l.drop 3) k = z at *;go_wp2_with fail;go_roundw
          case rel => exact ⟨k + 1,_,by omega,by go_num,hN,hF2,hnx⟩
          case measure => simp [intOf]; omega
     ·obtain rfl:k = cn:=by omega
      have hnb:=hG.out
      by_cases hmore:3 + 4 * k < L
      ·have hm:3 + 4 * (k:Int) < (L:Int):=by omega
       have KE:Hid (errN l = 7):=zh (by
        rw [HE.out];exact zqsc (by rw [List.length_drop,HLen.out]; omega) (fun h => ⟨hnb.2.1 h,hnb.2.2 h rfl⟩))
       have K1:Hid (wr.heap[w.heap.size]? = some zeroObj):=zh (zqaf HX.out.1 hS.out.2);have K2:Hid (wr.heap[w.heap.size + 1]? = some zeroObj):=zh (zqaf HX.out.2 hS.out.2);have KB:=zh (zqaa HW0.out hS.out.2);clear hnb hG;obtain ⟨⟨q0,q1,q2,q3,q4,q5,q6⟩,-⟩:=zqad K2.out;obtain ⟨⟨r0,r1,r2,r3,r4,r5,r6⟩,f0,f1,f2,f3,f4,f5,f6⟩:=zqad K1.out;go_wp2_with fail;have hf:=set7 (a':=.bool false) (b':=.bool false) (c':=.bool false) (d':=.bool false) (e':=.bool false) (f':=.bool false) (g':=.slice none 0 0) K1.out;have hgr:=grown7 wr w.heap.size (.bool false) (.bool false) (.bool false) (.bool false) (.bool false) (.bool false) (.slice none 0 0);have hbl:=KB.out.grown hgr KB.out.size (fun k hk => by simp only [Option.some.injEq] at hk; omega)
       clear q0 q1 q2 q3 q4 q5 q6 r0 r1 r2 r3 r4 r5 r6 f0 f1 f2 f3 f4 f5 f6 hgr;generalize (((((((wr.setCell ⟨w.heap.size,0,none⟩ (.bool false)).setCell ⟨w.heap.size,1,none⟩ (.bool false)).setCell ⟨w.heap.size,2,none⟩ (.bool false)).setCell ⟨w.heap.size,3,none⟩ (.bool false)).setCell ⟨w.heap.size,4,none⟩ (.bool false)).setCell ⟨w.heap.size,5,none⟩ (.bool false)).setCell ⟨w.heap.size,6,none⟩ (.slice none 0 0)) = w5 at *;obtain ⟨⟨k0,k1,k2,k3,k4,k5,k6⟩,-⟩:=zqad hf;exact bodyPost_ret (v:=.tuple #[zeroSum,.int .i64 7]) (by simp [results,Tryz.results67,go_sem,k0,k1,k2,k3,k4,k5,k6]) rfl (zqbu (k:=7) KE.out (by decide) hbl)
      ·have hm:¬ 3 + 4 * (k:Int) < (L:Int):=by omega
       have hE0:errN l = 0:=by
        rw [HE.out];exact zqsb (by rw [List.length_drop,HLen.out]; omega) (fun h => ⟨hnb.2.1 h,hnb.2.2 h rfl⟩)
       obtain ⟨⟨hgd,-,-,hpos⟩,-⟩:=HG.out hE0;obtain rfl:out = wordsR l:=by
        have h:=hr.out;rw [← hcn] at h; exact h.stop
       have hwl:=hS.out.1.wlist HWd.out (by rw [zqa2,hlw,hcn]; omega)
       have hrg:=zqas HWd.out;have hsd:Sized 1000 (wv (wordsR l)):=(zqe7 hrg.1 hrg.2).mono (by rw [zqa2,hlw,hcn]; omega)
       rw [zqa2,hlw,hcn,hsz] at hwl;have HNW:=zh (zqgk _ (wordsR l) wr hwl (by rw [zqa2,hlw,hcn]; omega))
       have K1:Hid (wr.heap[w.heap.size]? = some zeroObj):=zh (zqaf HX.out.1 hS.out.2);have K2:Hid (wr.heap[w.heap.size + 1]? = some zeroObj):=zh (zqaf HX.out.2 hS.out.2);have KB:=zh (zqaa HW0.out hS.out.2);obtain ⟨X,rfl⟩:=Int.eq_ofNat_of_zero_le hx0;have hFX:readF l = X % 32:=by rw [EF.out,Int.toNat_natCast]
       have hfb:=zqsv X (by omega)
       rw [← hFX] at hfb;obtain ⟨g0,g1,g2,g3,g4⟩:=hfb;have hP4:bitB (readF l) 4 = P:=g4.symm.trans hP;have hTQ:readT l = signed Q (wv (wordsR l)):=by
        have e:readB l = Q:=by
         rw [EB.out];cases Q
         ·exact decide_eq_false (fun h => by have:=kQ.2 h; cases this)
         ·exact decide_eq_true (kQ.1 rfl)
        rw [readT,e]
       have HE0:=zh hE0;have HGd:=zh hgd;have HTQ:=zh hTQ;have HSd:=zh hsd;clear hE0 hgd hTQ hsd hpos hrg hwl hnb hG hr hS g4 hP hQ kP kQ hFX EF EB;generalize wv (wordsR l) = Z at *;generalize hT:readT l = T at *;generalize hF:readF l = F at *;have HT:=zh hT;have HF:=zh hF;clear hT hF;generalize hz0':bitB F 0 = y0 at *;generalize hz1':bitB F 1 = y1 at *;generalize hz2':bitB F 2 = y2 at *;generalize hz3':bitB F 3 = y3 at *;have HY:=zh (And.intro hz0' (And.intro hz1' (And.intro hz2' (And.intro hz3' hP4))));clear hz0' hz1' hz2' hz3' hP4;go_wp2_with fail;refine (HNW.out).mono ?_; rintro e w1 ⟨v,rfl,hv,hb1⟩;obtain ⟨nb,sp,sl,sc,rfl⟩:=hv.shape;have L1:Hid (w1.heap[w.heap.size]? = some zeroObj):=zh (zqaf K1.out hb1);have L2:Hid (w1.heap[w.heap.size + 1]? = some zeroObj):=zh (zqaf K2.out hb1);have LB:=zh (zqaa KB.out hb1);have LN:=zh hv;clear hv hb1 HNW K1 K2 KB;obtain ⟨⟨q0,q1,q2,q3,q4,q5,q6⟩,f0,f1,f2,f3,f4,f5,f6⟩:=zqad L2.out;go_upto_region 34 with fail;clear q0 q1 q2 q3 q4 q5 q6 f0 f1 f2 f3 f4 f5 f6 g0 g1 g2 g3;have hf:=set7 (a':=.bool y0) (b':=.bool y1) (c':=.bool y2) (d':=.bool y3) (e':=.bool P) (f':=.bool nb) (g':=.slice sp sl sc) L2.out;have hgr:=grown7 w1 (w.heap.size + 1) (.bool y0) (.bool y1) (.bool y2) (.bool y3) (.bool P) (.bool nb) (.slice sp sl sc);have hn2:=LN.out.grown L2.out (by decide) hgr
       have hbl2:=LB.out.grown hgr LB.out.size (fun k hk => by simp only [Option.some.injEq] at hk; omega)
       have hk1:Hid (_ = some zeroObj):=zh ((hgr.block w.heap.size (Array.getElem?_eq_some_iff.1 L1.out).1 (by simp)).trans L1.out)
       generalize (((((((w1.setCell ⟨w.heap.size + 1,0,none⟩ (.bool y0)).setCell ⟨w.heap.size + 1,1,none⟩ (.bool y1)).setCell ⟨w.heap.size + 1,2,none⟩ (.bool y2)).setCell ⟨w.heap.size + 1,3,none⟩ (.bool y3)).setCell ⟨w.heap.size + 1,4,none⟩ (.bool P)).setCell ⟨w.heap.size + 1,5,none⟩ (.bool nb)).setCell ⟨w.heap.size + 1,6,none⟩ (.slice sp sl sc)) = w2 at *;have M2:=zh hf;have MN:=zh hn2;have MB:=zh hbl2;clear hf hgr hn2 hbl2 L1 L2 LB LN;cases Q
       ·have HNz:Hid (IsNum w2 (.agg #[.bool nb,.slice sp sl sc]) T):=zh (by rw [HTQ.out]; exact MN.out)
        obtain ⟨⟨q0,q1,q2,q3,q4,q5,q6⟩,-⟩:=zqad M2.out;obtain ⟨⟨r0,r1,r2,r3,r4,r5,r6⟩,f0,f1,f2,f3,f4,f5,f6⟩:=zqad hk1.out;go_wp2_with fail;have hf:=set7 (a':=.bool y0) (b':=.bool y1) (c':=.bool y2) (d':=.bool y3) (e':=.bool P) (f':=.bool nb) (g':=.slice sp sl sc) hk1.out;have hgr:=grown7 w2 w.heap.size (.bool y0) (.bool y1) (.bool y2) (.bool y3) (.bool P) (.bool nb) (.slice sp sl sc);have hn:=HNz.out.grown hk1.out (by decide) hgr
        have hbl:=MB.out.grown hgr MB.out.size (fun k hk => by simp only [Option.some.injEq] at hk; omega)
        clear q0 q1 q2 q3 q4 q5 q6 r0 r1 r2 r3 r4 r5 r6 f0 f1 f2 f3 f4 f5 f6 hgr;generalize (((((((w2.setCell ⟨w.heap.size,0,none⟩ (.bool y0)).setCell ⟨w.heap.size,1,none⟩ (.bool y1)).setCell ⟨w.heap.size,2,none⟩ (.bool y2)).setCell ⟨w.heap.size,3,none⟩ (.bool y3)).setCell ⟨w.heap.size,4,none⟩ (.bool P)).setCell ⟨w.heap.size,5,none⟩ (.bool nb)).setCell ⟨w.heap.size,6,none⟩ (.slice sp sl sc)) = w5 at *;obtain ⟨⟨k0,k1,k2,k3,k4,k5,k6⟩,-⟩:=zqad hf;obtain ⟨hy0',hy1',hy2',hy3',hy4'⟩:=HY.out;exact bodyPost_ret (v:=.tuple #[.agg #[.bool y0,.bool y1,.bool y2,.bool y3,.bool P,.bool nb,.slice sp sl sc],.int .i64 0]) (by simp [results,Tryz.results67,go_sem,k0,k1,k2,k3,k4,k5,k6]) rfl (.inr ⟨HE0.out,_,rfl,⟨nb,sp,sl,sc,by rw [HF.out,hy0',hy1',hy2',hy3',hy4'],by rw [HT.out]; exact hn,by rw [HF.out,HT.out]; exact HGd.out⟩,hbl⟩)
       ·obtain ⟨⟨q0,q1,q2,q3,q4,q5,q6⟩,-⟩:=zqad M2.out;have HNg:=zh (zqpm _ Z 1000 w2 MN.out HSd.out (by decide))
        clear q0 q1 q2 q3 q4;go_wp2_with fail;refine (HNg.out).mono ?_; rintro e w3 ⟨v,rfl,hv,hb3⟩;obtain ⟨nb2,sp2,sl2,sc2,rfl⟩:=hv.shape;have N1:Hid (w3.heap[w.heap.size]? = some zeroObj):=zh (zqaf hk1.out hb3);have N2:=zh (zqaf M2.out hb3);have NB:=zh (zqaa MB.out hb3);have NN:=zh hv;clear q5 q6 hv hb3 HNg hk1 M2 MB MN;obtain ⟨⟨q0,q1,q2,q3,q4,q5,q6⟩,f0,f1,f2,f3,f4,f5,f6⟩:=zqad N2.out;clear q0 q1 q2 q3 q4 f0 f1 f2 f3 f4;go_upto_region 36 with fail;clear q5 q6 f5 f6;have hf:=put56 (f':=.bool nb2) (g':=.slice sp2 sl2 sc2) N2.out;have hgr:=grow56 w3 (w.heap.size + 1) (.bool nb2) (.slice sp2 sl2 sc2);have hn2:=NN.out.grown N2.out (by decide) hgr
        have hbl2:=NB.out.grown hgr NB.out.size (fun k hk => by simp only [Option.some.injEq] at hk; omega)
        have hk1:Hid (_ = some zeroObj):=zh ((hgr.block w.heap.size (Array.getElem?_eq_some_iff.1 N1.out).1 (by simp)).trans N1.out)
        generalize (w3.setCell ⟨w.heap.size + 1,5,none⟩ (.bool nb2)).setCell ⟨w.heap.size + 1,6,none⟩ (.slice sp2 sl2 sc2) = w4 at *;have M2:=zh hf;have MB:=zh hbl2;have HNz:Hid (IsNum w4 (.agg #[.bool nb2,.slice sp2 sl2 sc2]) T):=zh (by rw [HTQ.out]; exact hn2)
        clear hf hgr hn2 hbl2 N1 N2 NB NN;obtain ⟨⟨q0,q1,q2,q3,q4,q5,q6⟩,-⟩:=zqad M2.out;obtain ⟨⟨r0,r1,r2,r3,r4,r5,r6⟩,f0,f1,f2,f3,f4,f5,f6⟩:=zqad hk1.out;go_wp2_with fail;have hf:=set7 (a':=.bool y0) (b':=.bool y1) (c':=.bool y2) (d':=.bool y3) (e':=.bool P) (f':=.bool nb2) (g':=.slice sp2 sl2 sc2) hk1.out;have hgr:=grown7 w4 w.heap.size (.bool y0) (.bool y1) (.bool y2) (.bool y3) (.bool P) (.bool nb2) (.slice sp2 sl2 sc2);have hn:=HNz.out.grown hk1.out (by decide) hgr
        have hbl:=MB.out.grown hgr MB.out.size (fun k hk => by simp only [Option.some.injEq] at hk; omega)
        clear q0 q1 q2 q3 q4 q5 q6 r0 r1 r2 r3 r4 r5 r6 f0 f1 f2 f3 f4 f5 f6 hgr;generalize (((((((w4.setCell ⟨w.heap.size,0,none⟩ (.bool y0)).setCell ⟨w.heap.size,1,none⟩ (.bool y1)).setCell ⟨w.heap.size,2,none⟩ (.bool y2)).setCell ⟨w.heap.size,3,none⟩ (.bool y3)).setCell ⟨w.heap.size,4,none⟩ (.bool P)).setCell ⟨w.heap.size,5,none⟩ (.bool nb2)).setCell ⟨w.heap.size,6,none⟩ (.slice sp2 sl2 sc2)) = w5 at *;obtain ⟨⟨k0,k1,k2,k3,k4,k5,k6⟩,-⟩:=zqad hf;obtain ⟨hy0',hy1',hy2',hy3',hy4'⟩:=HY.out;exact bodyPost_ret (v:=.tuple #[.agg #[.bool y0,.bool y1,.bool y2,.bool y3,.bool P,.bool nb2,.slice sp2 sl2 sc2],.int .i64 0]) (by simp [results,Tryz.results67,go_sem,k0,k1,k2,k3,k4,k5,k6]) rfl (.inr ⟨HE0.out,_,rfl,⟨nb2,sp2,sl2,sc2,by rw [HF.out,hy0',hy1',hy2',hy3',hy4'],by rw [HT.out]; exact hn,by rw [HF.out,HT.out]; exact HGd.out⟩,hbl⟩)
theorem zqf0 (p:Option Addr) (L c:Nat) (l:List Int) (w:World) (hv:Ints .u8 w (.slice p L c) l) (hb:Bt5 l) :
  Calls Tryz.prog 67 #[.slice p L c] w (RReadP5 l w):=by
 by_cases h:okHead L (l.getD 0 0) (l.getD 1 0) (l.getD 2 0) ∧ 3 ≤ L
 ·exact zqup p L c l w hv hb h.1 h.2
 ·exact zqro p L c l w hv hb h
end Go.Proofs.YtmnbljijnbhghaaGreatDoor
