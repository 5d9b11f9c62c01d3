/- Contracts that the law leans on: Codei. -/
import Derived.Laws.BytesArg
import Derived.Test.YtafmghloohhaeaaGreatDoorPt02
import Derived.Test.YtafmghloohhaeaaGreatDoorPt09
namespace Go.Proofs.YtafmghloohhaeaaGreatDoor
set_option maxRecDepth 100000
open Go.RowKit
set_option linter.unusedVariables false
theorem zqep (n:Nat) (w:World) (hn:n ≤ 8):Calls Tryz.prog 146 #[.int .i64 n] w fun e w' => e = .returned (.int .u64 (grN n)) ∧ w = w':=by
 have h:n = 0 ∨ n = 1 ∨ n = 2 ∨ n = 3 ∨ n = 4 ∨ n = 5 ∨ n = 6 ∨ n = 7 ∨ n = 8:=by omega
 rcases h with rfl | rfl | rfl | rfl | rfl | rfl | rfl | rfl | rfl
 all_goals
  go_enter Tryz.func146,Tryz.ntmps146;go_wp2_with fail;go_ret;exact ⟨zqar (by decide),rfl⟩
def spanV (first last:Int):Value:=.agg #[.int .u64 first,.int .u64 last]
theorem zqft {n:Nat} (hn:n ≤ 8):0 ≤ grN n ∧ grN n ≤ 18446744073709551615:=by
 have h:n = 0 ∨ n = 1 ∨ n = 2 ∨ n = 3 ∨ n = 4 ∨ n = 5 ∨ n = 6 ∨ n = 7 ∨ n = 8:=by omega
 rcases h with rfl | rfl | rfl | rfl | rfl | rfl | rfl | rfl | rfl <;> decide
theorem zqzu {n:Nat} (hn:n < 8):grN n + 1 ≤ 18446744073709551615:=by
 have h:n = 0 ∨ n = 1 ∨ n = 2 ∨ n = 3 ∨ n = 4 ∨ n = 5 ∨ n = 6 ∨ n = 7:=by omega
 rcases h with rfl | rfl | rfl | rfl | rfl | rfl | rfl | rfl <;> decide
set_option maxHeartbeats 2000000 in
theorem zqid (n:Nat) (most:Int) (w:World) (hn:n ≤ 8) (h0:0 ≤ most) (h1:most ≤ 18446744073709551615) :
  Calls Tryz.prog 144 #[.int .i64 n,.int .u64 most] w fun e w' => e = .returned (spanV (needF n) (needL n most)) ∧ Below w.heap.size w w':=by
 by_cases hz:n = 0
 ·subst hz;go_enter Tryz.func144,Tryz.ntmps144;go_wp2_with fail;exact bodyPost_ret (v:=.agg #[.int .u64 0,.int .u64 0]) (by simp [results,Tryz.results144,go_sem]) rfl ⟨rfl,zqab _ _⟩
 ·have HG:=zh (fun w => zqep n w hn)
  have hc:(((n - 1:Nat):Int)) = (n:Int) - 1:=by omega
  have HG1:=zh (fun w => zqep (n - 1) w (by omega))
  rw [hc] at HG1;have r0:=zqft hn;have r1:=zqzu (n:=n - 1) (by omega)
  have r2:=zqft (n:=n - 1) (by omega)
  have hR:=zh (show needF n = grN (n - 1) + 1 ∧ needL n most = min (grN n) most from ⟨by unfold needF; rw [if_neg hz],by unfold needL; rw [if_neg hz]⟩)
  generalize needF n = F at *;generalize needL n most = L at *;generalize grN (n - 1) = a at *;generalize grN n = b at *;have i1:IntKind.u64.wrap (a + 1) = a + 1:=by rw [IntKind.wrap_u64]; omega
  have i2:((n:Int) == 0) = false:=by simp; omega
  have i3:IntKind.i64.wrap ((n:Int) - 1) = (n:Int) - 1:=IntWalk.i64_in _ (by omega)
  go_enter Tryz.func144,Tryz.ntmps144;go_wp2_with fail;refine (HG1.out _).mono ?_; rintro e w1 ⟨rfl,rfl⟩;go_wp2_with fail;refine (HG.out _).mono ?_; rintro e w1 ⟨rfl,rfl⟩;go_wp2_with fail;exact bodyPost_ret (v:=.agg #[.int .u64 (a + 1),.int .u64 (min b most)]) (by simp [results,Tryz.results144,go_sem]) rfl ⟨by rw [hR.out.1,hR.out.2]; rfl,zqab _ _⟩
set_option maxHeartbeats 2000000 in
theorem zqso (f l:Int) (n:Nat) (w:World) (hn:n ≤ 8) (f0:0 ≤ f) (f1:f ≤ grN n) (l0:0 ≤ l) (l1:l ≤ grN n) :
  Calls Tryz.prog 145 #[spanV f l,.int .i64 n] w fun e w' => e = .returned (spanV (grN n - l) (grN n - f)) ∧ Below w.heap.size w w':=by
 have HG:=zh (fun w => zqep n w hn)
 have r0:=zqft hn;generalize grN n = g at *;have i1:IntKind.u64.wrap (g - l) = g - l:=by rw [IntKind.wrap_u64]; omega
 have i2:IntKind.u64.wrap (g - f) = g - f:=by rw [IntKind.wrap_u64]; omega
 unfold spanV;go_enter Tryz.func145,Tryz.ntmps145;go_wp2_with fail;go_region_law (go_simp; go_at_call 146; refine (HG.out _).mono ?_; rintro e w1 ⟨rfl,rfl⟩)
 all_goals
  go_wp2_with fail;exact bodyPost_ret (v:=.agg #[.int .u64 (g - l),.int .u64 (g - f)]) (by simp [results,Tryz.results145,go_sem]) rfl ⟨rfl,((zqab w _).alloc (by simp) _).drew⟩
set_option maxHeartbeats 2000000 in
theorem zqtu (a b c d:Int) (w:World) :
  Calls Tryz.prog 165 #[spanV a b,spanV c d] w fun e w' => e = .returned (.bool (meetB a b c d)) ∧ Below w.heap.size w w':=by
 unfold spanV meetB;have hB:=zh (fun o1 o2 => ((zqab w o1).alloc (by simp) o2))
 by_cases h:a ≤ d
 ·go_enter Tryz.func165,Tryz.ntmps165;go_wp2_with fail;go_ret;exact ⟨by simp [h],hB.out _ _⟩
 ·go_enter Tryz.func165,Tryz.ntmps165;go_wp2_with fail;go_ret;exact ⟨by simp; intro h'; omega,hB.out _ _⟩
set_option maxRecDepth 100000
open Go.RowKit
set_option linter.unusedVariables false
theorem or8 {a c:Int} (a0:0 ≤ a) (a1:a * 256 + 255 ≤ 18446744073709551615) (c0:0 ≤ c) (c1:c ≤ 255):bits .or .u64 (a * 256) c = a * 256 + c:=by
 obtain ⟨A,rfl⟩:=Int.eq_ofNat_of_zero_le a0;obtain ⟨C,rfl⟩:=Int.eq_ofNat_of_zero_le c0;have:=zqxt A C 8 (by omega) (by omega)
 have e:((2 ^ 8 * A:Nat):Int) = (A:Int) * 256:=by push_cast; omega
 rw [e] at this;rw [this]; push_cast; omega
def Box2 (w:World) (g:Nat) (a b:Int):Prop:=w.heap[g]? = some (.cells #[.int .u64 a,.int .u64 b] 194)
theorem Box2.get {w:World} {g:Nat} {a b:Int} (h:Box2 w g a b):w.cell? ⟨g,0,none⟩ = some (.int .u64 a) ∧ w.cell? ⟨g,1,none⟩ = some (.int .u64 b) ∧ w.frozen? ⟨g,0,none⟩ = false ∧ w.frozen? ⟨g,1,none⟩ = false :=
 ⟨by rw [cell_of_row w g 0 _ _ _ h]; rfl,by rw [cell_of_row w g 1 _ _ _ h]; rfl,frozen_of_row w g 0 _ _ h,frozen_of_row w g 1 _ _ h⟩
theorem Box2.set0 {w:World} {g:Nat} {a b:Int} (h:Box2 w g a b) (x:Int):Box2 (w.setCell ⟨g,0,none⟩ (.int .u64 x)) g x b:=heap_setCell_same w g 0 _ _ (.int .u64 x) h
theorem Box2.set1 {w:World} {g:Nat} {a b:Int} (h:Box2 w g a b) (x:Int):Box2 (w.setCell ⟨g,1,none⟩ (.int .u64 x)) g a x:=heap_setCell_same w g 1 _ _ (.int .u64 x) h
theorem Box2.far {w:World} {g k j:Nat} {a b:Int} (h:Box2 w g a b) (hk:g ≠ k) (x:Value):Box2 (w.setCell ⟨k,j,none⟩ x) g a b:=by
 unfold Box2;rw [heap_setCell_other w ⟨k,j,none⟩ g x hk]; exact h
theorem Box2.below {w w':World} {g:Nat} {a b:Int} {B:Nat} (h:Box2 w g a b) (hb:Below B w w') (hg:g < B):Box2 w' g a b:=by
 unfold Box2;rw [hb.block g hg]; exact h
theorem Box2.new (w:World) (a b:Int):Box2 (w.alloc (.cells #[.int .u64 a,.int .u64 b] 194)) w.heap.size a b:=heap_alloc_new w _
theorem zqeo {t:List Int} {f c:Int} {k n:Nat} (ht:Bt t) (f0:0 ≤ f) (f1:f ≤ 255) (hk:k < n) (hn:n ≤ 8) (hc:t.getD k f = c) :
  fillN t f (k + 1) = fillN t f k * 256 + c ∧ 0 ≤ fillN t f k ∧ fillN t f k * 256 + 255 ≤ 18446744073709551615 ∧ 0 ≤ c ∧ c ≤ 255:=by
 have h:=zqao ht f0 f1 k;have h2:(256:Int) ^ k ≤ 256 ^ 7:=by
  have:256 ^ k ≤ 256 ^ 7:=Nat.pow_le_pow_right (by decide) (by omega)
  exact_mod_cast this
 have h7:(256:Int) ^ 7 = 72057594037927936:=by decide
 rw [h7] at h2;have h3:=ht.getD f0 f1 k;rw [hc] at h3;refine ⟨by rw [fillN,hc],h.1,by omega,h3.1,h3.2⟩
set_option maxHeartbeats 8000000 in
theorem zqp2 (v:Value) (t:List Int) (n:Nat) (w:World) (hv:Ints .u8 w v t) (ht:Bt t) (hn:n ≤ 8) (hl:t.length ≤ 1099511627776) :
  Calls Tryz.prog 164 #[v,.int .i64 n] w fun e w' => e = .returned (spanV (fillN t 0 n) (fillN t 255 n)) ∧ Below w.heap.size w w':=by
 have HV:=zh hv;obtain ⟨a,cap,rfl,hcap,-⟩:=hv;go_enter Tryz.func164,Tryz.ntmps164;go_wp2_with fail;go_loopw [10] (fun i wr => ∃ k:Nat,k ≤ n ∧ i = .int .i64 k ∧ Hid (Box2 wr w.heap.size 0 0 ∧ Box2 wr (w.heap.size + 1) (fillN t 0 k) (fillN t 255 k) ∧ Below w.heap.size w wr)) (fun i _ => n - (intOf i).toNat)
 case atStart =>
  refine ⟨0,Nat.zero_le _,rfl,zh ⟨?_,?_,(zqab w _).alloc (by simp) _⟩⟩
  ·exact Box2.below (Box2.new w 0 0) (zqab _ _) (by simp)
  ·have:=Box2.new (w.alloc (.cells #[.int .u64 0,.int .u64 0] 194)) 0 0;simpa [fillN] using this
 case round =>
  obtain ⟨k,hk,rfl,hS⟩:=hrel;have g0:=hS.out.2.1.get
  by_cases hlt:k < n
  ·have i1:(k:Int) < (n:Int):=by omega
   by_cases htl:k < t.length
   ·have i2:(k:Int) < (t.length:Int):=by omega
    obtain ⟨b,off,rfl,hb,hcell⟩:=(HV.out.below hS.out.2.2).cell htl;have e1:t.getD k 255 = t.getD k 0:=by simp [List.getD,List.getElem?_eq_getElem htl]
    obtain ⟨p1,p2,p3,p4,p5⟩:=zqeo ht (f:=0) (by decide) (by decide) hlt hn rfl
    obtain ⟨q1,q2,q3,-,-⟩:=zqeo ht (f:=255) (by decide) (by decide) hlt hn e1
    have HP1:=zh p1;have HQ1:=zh q1;clear p1 q1 e1;generalize t.getD k 0 = c at *;generalize fillN t 0 k = lo at *;generalize fillN t 255 k = hi at *;obtain ⟨c0,c1,c2,c3⟩:=g0;have hw1:IntKind.u64.wrap (lo * 256) = lo * 256:=by rw [IntKind.wrap_u64]; omega
    have hw2:IntKind.u64.wrap (hi * 256) = hi * 256:=by rw [IntKind.wrap_u64]; omega
    have hu:IntKind.u64.wrap c = c:=by rw [IntKind.wrap_u64]; omega
    have o1:=or8 p2 p3 p4 p5;have o2:=or8 q2 q3 p4 p5;go_wp2_with fail;go_region
    all_goals
     go_wp2_with fail;refine ⟨⟨k + 1,by omega,by go_num,zh ?_⟩,by simp [intOf]; omega⟩
     rw [HP1.out,HQ1.out];exact ⟨Box2.far (Box2.far hS.out.1 (by omega) _) (by omega) _,Box2.set1 (Box2.set0 hS.out.2.1 _) _,((hS.out.2.2.setCell (by simp) _).setCell (by simp) _).drew⟩
   ·have i2:¬ (k:Int) < (t.length:Int):=by omega
    have e0:t.getD k 0 = 0:=by simp [List.getD,List.getElem?_eq_none (Nat.le_of_not_lt htl)]
    have e1:t.getD k 255 = 255:=by simp [List.getD,List.getElem?_eq_none (Nat.le_of_not_lt htl)]
    obtain ⟨p1,p2,p3,-,-⟩:=zqeo ht (f:=0) (by decide) (by decide) hlt hn e0
    obtain ⟨q1,q2,q3,-,-⟩:=zqeo ht (f:=255) (by decide) (by decide) hlt hn e1
    have HP1:=zh p1;have HQ1:=zh q1;clear p1 q1 e0 e1;generalize fillN t 0 k = lo at *;generalize fillN t 255 k = hi at *;obtain ⟨c0,c1,c2,c3⟩:=g0;have hw1:IntKind.u64.wrap (lo * 256) = lo * 256:=by rw [IntKind.wrap_u64]; omega
    have hw2:IntKind.u64.wrap (hi * 256) = hi * 256:=by rw [IntKind.wrap_u64]; omega
    have o1:=or8 (c:=0) p2 p3 (by decide) (by decide)
    have o2:=or8 (c:=255) q2 q3 (by decide) (by decide)
    go_wp2_with fail;refine ⟨⟨k + 1,by omega,by go_num,zh ?_⟩,by simp [intOf]; omega⟩
    rw [HP1.out,HQ1.out,Int.add_zero];exact ⟨Box2.far (Box2.far hS.out.1 (by omega) _) (by omega) _,Box2.set1 (Box2.set0 hS.out.2.1 _) _,(hS.out.2.2.setCell (by simp) _).setCell (by simp) _⟩
  ·obtain rfl:k = n:=by omega
   have i1:¬ ((k:Nat):Int) < (k:Nat):=by omega
   obtain ⟨c0,c1,c2,c3⟩:=g0;obtain ⟨d0,d1,d2,d3⟩:=hS.out.1.get;generalize hlo:fillN t 0 k = lo at *;generalize hhi:fillN t 255 k = hi at *;have hlo:=zh hlo;have hhi:=zh hhi;have hE:=zh ((hS.out.2.2.setCell (p:=⟨w.heap.size,0,none⟩) (by simp) (.int .u64 lo)).setCell (p:=⟨w.heap.size,1,none⟩) (by simp) (.int .u64 hi))
   go_wp2_with fail;exact bodyPost_ret (v:=.agg #[.int .u64 lo,.int .u64 hi]) (by simp [results,Tryz.results164,go_sem,d0,d1]) rfl ⟨rfl,hE.out⟩
def Spans (w:World) (v:Value) (ls:List (Int × Int)):Prop :=
 ∃ b,v = .slice (some ⟨b,0,none⟩) ls.length ls.length ∧ b < w.heap.size ∧ ∀ i,i < ls.length → w.cell? ⟨b,i * 2,none⟩ = some (.int .u64 (ls.getD i (0,0)).1) ∧ w.cell? ⟨b,i * 2 + 1,none⟩ = some (.int .u64 (ls.getD i (0,0)).2)
def numL (t:List Int) (n:Nat) (ls:List (Int × Int)):Int × Nat :=
 if ls.any (fun s => meetB (fillN t 0 n) (fillN t 255 n) s.1 s.2) then (if t.length < n then (0,5) else (fillN t 0 n,0)) else (0,6)
theorem zqxp (t:List Int) (n:Nat) (f l:Int):numL t n [(f,l)] = num1 t n f l:=by simp [numL,num1]
theorem zqxq (t:List Int) (n:Nat) (f l f2 l2:Int):numL t n [(f,l),(f2,l2)] = num2 t n f l f2 l2:=by simp [numL,num2]
theorem zqwz {w w1:World} (h:Below w.heap.size w w1):w.heap.size ≤ w1.heap.size:=h.size
theorem zqvz (p:Int × Int → Bool) (ls:List (Int × Int)) {k:Nat} (h:k < ls.length):(ls.take (k + 1)).any p = ((ls.take k).any p || p ((ls.getD k (0,0)).1,(ls.getD k (0,0)).2)):=by
 rw [List.take_succ_eq_append_getElem h,List.any_append,List.getD,List.getElem?_eq_getElem h];simp
theorem zqv0 {p:Int × Int → Bool} {ls:List (Int × Int)} {k:Nat} (h:(ls.take k).any p = true):ls.any p = true:=by
 rw [List.any_eq_true] at h ⊢;obtain ⟨x,hx,hp⟩:=h;exact ⟨x,List.mem_of_mem_take hx,hp⟩
set_option maxHeartbeats 8000000 in
theorem zqi8 (v s:Value) (t:List Int) (n:Nat) (ls:List (Int × Int)) (w:World) (hv:Ints .u8 w v t) (ht:Bt t) (hn:n ≤ 8) (hl:t.length ≤ 1099511627776) (hs:Spans w s ls) (hls:ls.length ≤ 2) :
  Calls Tryz.prog 149 #[v,.int .i64 n,s] w fun e w' => e = .returned (.tuple #[.int .u64 (numL t n ls).1,.int .i64 ((numL t n ls).2:Nat)]) ∧ Below w.heap.size w w':=by
 have HC:=zh (zqp2 v t n w hv ht hn hl);have HN:=zh (show numL t n ls = (if ls.any (fun s => meetB (fillN t 0 n) (fillN t 255 n) s.1 s.2) then (if t.length < n then (0,5) else (fillN t 0 n,0)) else (0,6)) from rfl)
 generalize numL t n ls = R at *;generalize fillN t 0 n = lo at *;generalize fillN t 255 n = hi at *;obtain ⟨a,cap,rfl,hcap,-⟩:=hv;obtain ⟨b,rfl,hb,hcell⟩:=hs;have HM:=zh (fun c d w => zqtu lo hi c d w)
 have HCl:=zh hcell;clear hcell;go_enter Tryz.func149,Tryz.ntmps149;go_wp2_with fail;refine (HC.out).mono ?_; rintro e w1 ⟨rfl,hb1⟩;have HB1:=zh hb1;clear hb1;unfold spanV;go_wp2_with fail;have hb0:=zqwz HB1.out;go_loopw [16] (fun i wr => ∃ k:Nat,k ≤ ls.length ∧ i = .int .i64 k ∧ Hid ((ls.take k).any (fun s => meetB lo hi s.1 s.2) = false) ∧ Hid (Box2 wr w1.heap.size lo hi ∧ Below w.heap.size w wr ∧ w1.heap.size < wr.heap.size)) (fun i _ => ls.length - (intOf i).toNat)
 case atStart => exact ⟨0,Nat.zero_le _,rfl,zh rfl,zh ⟨Box2.new _ _ _,HB1.out.alloc hb0 _,by simp⟩⟩
 case round =>
  obtain ⟨k,hk,rfl,hA,hS⟩:=hrel;obtain ⟨c0,c1,c2,c3⟩:=hS.out.1.get
  by_cases hlt:k < ls.length
  ·have i1:(k:Int) < (ls.length:Int):=by omega
   obtain ⟨d0,d1⟩:=HCl.out k hlt;rw [← hS.out.2.1.cell (p:=⟨b,k * 2,none⟩) hb] at d0;rw [← hS.out.2.1.cell (p:=⟨b,k * 2 + 1,none⟩) hb] at d1;have HAn:=zh (zqvz (fun s => meetB lo hi s.1 s.2) ls hlt)
   generalize (ls.getD k (0,0)).1 = f at *;generalize (ls.getD k (0,0)).2 = l at *;have hne:w1.heap.size < wr.heap.size:=hS.out.2.2;have hne2:¬ w1.heap.size = wr.heap.size:=by omega
   have e0:∀ o,(wr.alloc o).cell? ⟨w1.heap.size,0,none⟩ = some (.int .u64 lo):=fun o => by rw [← c0]; exact (zqab wr o).cell (p:=⟨w1.heap.size,0,none⟩) hne
   have e1:∀ o,(wr.alloc o).cell? ⟨w1.heap.size,1,none⟩ = some (.int .u64 hi):=fun o => by rw [← c1]; exact (zqab wr o).cell (p:=⟨w1.heap.size,1,none⟩) hne
   go_wp2_with fail;refine (HM.out f l _).mono ?_; rintro e w2 ⟨rfl,hb2⟩;have hm:meetB lo hi f l = true ∨ meetB lo hi f l = false:=by cases meetB lo hi f l <;> simp
   rcases hm with hm | hm
   ·rw [hm] at HAn ⊢;have hany:ls.any (fun s => meetB lo hi s.1 s.2) = true:=zqv0 (by rw [HAn.out]; simp)
    have hbx:=Box2.below (Box2.below hS.out.1 (zqab wr _) hS.out.2.2) hb2 (by have:=hS.out.2.2; simp; omega)
    obtain ⟨g0,g1,g2,g3⟩:=hbx.get;have HBe:=zh ((hS.out.2.1.alloc hS.out.2.1.size _).trans (hb2.mono (by have:=hS.out.2.1.size; simp; omega)))
    rw [hany] at HN;clear hb2 d0 d1 c0 c1 c2 c3 hany hbx HM HAn hA
    by_cases hn2:t.length < n
    ·have i3:(t.length:Int) < (n:Int):=by omega
     have HE:=zh (show R = (0,5) by rw [HN.out,if_pos rfl,if_pos hn2])
     go_wp2_with fail;exact bodyPost_ret (v:=.tuple #[.int .u64 0,.int .i64 5]) (by simp [results,Tryz.results149,go_sem]) rfl ⟨by rw [HE.out]; rfl,HBe.out⟩
    ·have i3:¬ (t.length:Int) < (n:Int):=by omega
     have HE:=zh (show R = (lo,0) by rw [HN.out,if_pos rfl,if_neg hn2])
     go_wp2_with fail;exact bodyPost_ret (v:=.tuple #[.int .u64 lo,.int .i64 0]) (by simp [results,Tryz.results149,go_sem]) rfl ⟨by rw [HE.out]; rfl,HBe.out⟩
   ·rw [hm] at HAn ⊢;have HS2:=zh (show Box2 w2 w1.heap.size lo hi ∧ Below w.heap.size w w2 ∧ w1.heap.size < w2.heap.size from
     ⟨Box2.below (Box2.below hS.out.1 (zqab wr _) hS.out.2.2) hb2 (by have:=hS.out.2.2; simp; omega),(hS.out.2.1.alloc hS.out.2.1.size _).trans (hb2.mono (by have:=hS.out.2.1.size; simp; omega)),by have:=hb2.size; have:=hS.out.2.2; simp at *; omega⟩)
    clear hb2 d0 d1 c0 c1 c2 c3;go_wp2_with fail;go_roundw
    case rel => exact ⟨k + 1,by omega,by go_num,zh (by rw [HAn.out,hA.out]; rfl),HS2⟩
    case measure => simp [intOf]; omega
  ·obtain rfl:k = ls.length:=by omega
   have i1:¬ ((ls.length:Nat):Int) < (ls.length:Nat):=by omega
   have hA2:=hA.out;rw [List.take_length] at hA2;have HE:=zh (show R = (0,6) by rw [HN.out,hA2]; rfl)
   go_wp2_with fail;exact bodyPost_ret (v:=.tuple #[.int .u64 0,.int .i64 6]) (by simp [results,Tryz.results149,go_sem]) rfl ⟨by rw [HE.out]; rfl,hS.out.2.1⟩
set_option maxRecDepth 100000
open Go.RowKit
set_option linter.unusedVariables false
theorem zqtj {w:World} {b off len cap:Nat} {h:Int} {t:List Int} (hv:Ints .u8 w (.slice (some ⟨b,off,none⟩) len cap) (h :: t)):Ints .u8 w (.slice (if cap = 1 then some ⟨b,off,none⟩ else some ⟨b,off + 1,none⟩) t.length (cap - 1)) t:=by
 obtain ⟨a,c,e,hc,hh⟩:=hv;cases e
 simp only [List.length_cons] at hc;refine ⟨_,_,rfl,by omega,?_⟩
 rcases hh with h0 | ⟨b',off',e,hb,hcell⟩
 ·cases h0
 ·cases e
  by_cases h1:cap = 1
  ·left;exact List.length_eq_zero_iff.1 (by omega)
  ·right;rw [if_neg h1];refine ⟨b,off + 1,rfl,hb,fun i hi => ?_⟩
   have:=hcell (i + 1) (by simp; omega)
   rw [List.getD_cons_succ] at this;rw [← this]
   congr 2; omega
theorem zqyu {w:World} {g:Nat} {f l:Int} (h:Box2 w g f l) (hg:g < w.heap.size):Spans w (.slice (some ⟨g,0,none⟩) 1 1) [(f,l)]:=by
 refine ⟨_,rfl,hg,fun i hi => ?_⟩
 obtain rfl:i = 0:=by simpa using hi
 exact ⟨h.get.1,h.get.2.1⟩
def cntd (n:Nat) (r:Int × Nat):Int × Nat × Nat:=if r.2 = 0 then (r.1,1 + n,0) else (0,0,r.2)
def trip (r:Int × Nat × Nat):Value:=.tuple #[.int .u64 r.1,.int .i64 (r.2.1:Nat),.int .i64 (r.2.2:Nat)]
set_option maxHeartbeats 8000000 in
theorem zqe3 (v:Value) (h:Int) (t:List Int) (n:Nat) (f l:Int) (w:World) (hv:Ints .u8 w v (h :: t)) (ht:Bt t) (hn:n ≤ 8) (hl:t.length ≤ 1099511627775) :
  Calls Tryz.prog 143 #[v,.int .i64 n,spanV f l] w fun e w' => e = .returned (trip (cntd n (num1 t n f l))) ∧ Below w.heap.size w w':=by
 have HV:=zh hv;obtain ⟨a,cap,rfl,hcap,hh⟩:=hv;obtain ⟨b,off,rfl,hb,-⟩:∃ b off,a = some ⟨b,off,none⟩ ∧ b < w.heap.size ∧ True:=by
  rcases hh with h0 | ⟨b,off,e,h1,-⟩
  ·cases h0
  ·exact ⟨b,off,e,h1,trivial⟩
 clear hh;simp only [List.length_cons] at hcap HV ⊢;have HT:=zh (fun w1 (hb:Below w.heap.size w w1) => zqtj (HV.out.below hb))
 have HNm:=zh (fun s w1 (hb:Below w.heap.size w w1) (hs:Spans w1 s [(f,l)]) => zqi8 _ s t n [(f,l)] w1 (HT.out w1 hb) ht hn (by omega) hs (by simp))
 simp only [zqxp] at HNm;have HE:=zh (show cntd n (num1 t n f l) = _ from rfl);have hr:(num1 t n f l).2 = 0 ∨ (num1 t n f l).2 ≠ 0:=by omega
 generalize num1 t n f l = r at *;obtain ⟨x,e⟩:=r;simp only at hr HNm;unfold spanV;have i1:(0:Int) ≤ (1:Int):=by decide
 have i2:(1:Int) ≤ (t.length:Int) + 1:=by omega
 go_enter Tryz.func143,Tryz.ntmps143;go_wp2_with fail;have hB2:Below w.heap.size w ((w.alloc (.cells #[.int .u64 f,.int .u64 l] 194)).alloc (.cells #[.int .u64 f,.int .u64 l] 194)).drew:=((zqab w _).alloc (by simp) _).drew
 have hS2:Spans ((w.alloc (.cells #[.int .u64 f,.int .u64 l] 194)).alloc (.cells #[.int .u64 f,.int .u64 l] 194)).drew (.slice (some ⟨w.heap.size + 1,0,none⟩) 1 1) [(f,l)] :=
  zqyu (by have:=Box2.new (w.alloc (.cells #[.int .u64 f,.int .u64 l] 194)) f l; rw [World.size_alloc] at this; exact this) (by simp)
 have HB2:=zh hB2;have HS2:=zh hS2;clear hB2 hS2;go_region_law (go_simp; go_at_call 149; refine (HNm.out _ _ HB2.out HS2.out).mono ?_; rintro e' w2 ⟨rfl,hb2⟩; have HB3:=zh (HB2.out.trans (hb2.mono HB2.out.size)); clear hb2)
 all_goals
  rcases hr with hr | hr
  ·subst hr;go_wp2_with fail
   all_goals exact bodyPost_ret (v:=.tuple #[.int .u64 x,.int .i64 (1 + (n:Int)),.int .i64 0]) (by simp [results,Tryz.results143,go_sem]) rfl ⟨rfl,HB3.out⟩
  ·have hne:((e:Int) == 0) = false:=by simp; omega
   go_wp2_with fail
   all_goals exact bodyPost_ret (v:=.tuple #[.int .u64 0,.int .i64 0,.int .i64 (e:Int)]) (by simp [results,Tryz.results143,go_sem]) rfl ⟨by unfold cntd; rw [if_neg hr]; rfl,HB3.out⟩
theorem zqi7 {n:Nat} (hn:n ≤ 8) {most:Int} (h0:0 ≤ most):0 ≤ needF n ∧ needF n ≤ grN n ∧ 0 ≤ needL n most ∧ needL n most ≤ grN n ∧ needL n most ≤ most:=by
 have h:n = 0 ∨ n = 1 ∨ n = 2 ∨ n = 3 ∨ n = 4 ∨ n = 5 ∨ n = 6 ∨ n = 7 ∨ n = 8:=by omega
 rcases h with rfl | rfl | rfl | rfl | rfl | rfl | rfl | rfl | rfl <;> simp [needF,needL,grN] <;> omega
theorem zqoy {t:List Int} {n:Nat} {f l:Int} (ht:Bt t) (h:(num1 t n f l).2 = 0):(num1 t n f l).1 = fillN t 0 n ∧ fillN t 0 n ≤ l ∧ f ≤ fillN t 0 n:=by
 unfold num1 meetB at h ⊢
 split at h
 ·rename_i hm;rw [if_pos hm]
  split at h
  ·cases h
  ·rename_i hl;rw [if_neg hl];rw [Bool.and_eq_true,decide_eq_true_iff,decide_eq_true_iff] at hm;have:=zqgf (t:=t) 255 n (by omega)
   exact ⟨rfl,hm.1,by omega⟩
 ·cases h
theorem zq1m {n:Nat} (hn:n ≤ 8) {x:Int} (h0:0 ≤ x) (h1:x < 256 ^ n):bits .or .u64 x (18446744073709551615 - grN n) = x + (18446744073709551615 - grN n):=by
 obtain ⟨X,rfl⟩:=Int.eq_ofNat_of_zero_le h0;have h:n = 0 ∨ n = 1 ∨ n = 2 ∨ n = 3 ∨ n = 4 ∨ n = 5 ∨ n = 6 ∨ n = 7 ∨ n = 8:=by omega
 rcases h with rfl | rfl | rfl | rfl | rfl | rfl | rfl | rfl | rfl
 ·have:=zqbe 18446744073709551615 X 0 (by simp at h1; omega) (by simp at h1; omega)
  simpa [grN,Int.add_comm] using this
 ·have:=zqbe (2 ^ 56 - 1) X 8 (by simp at h1; omega) (by simp at h1; omega)
  simpa [grN,Int.add_comm] using this
 ·have:=zqbe (2 ^ 48 - 1) X 16 (by simp at h1; omega) (by simp at h1; omega)
  simpa [grN,Int.add_comm] using this
 ·have:=zqbe (2 ^ 40 - 1) X 24 (by simp at h1; omega) (by simp at h1; omega)
  simpa [grN,Int.add_comm] using this
 ·have:=zqbe (2 ^ 32 - 1) X 32 (by simp at h1; omega) (by simp at h1; omega)
  simpa [grN,Int.add_comm] using this
 ·have:=zqbe (2 ^ 24 - 1) X 40 (by simp at h1; omega) (by simp at h1; omega)
  simpa [grN,Int.add_comm] using this
 ·have:=zqbe (2 ^ 16 - 1) X 48 (by simp at h1; omega) (by simp at h1; omega)
  simpa [grN,Int.add_comm] using this
 ·have:=zqbe (2 ^ 8 - 1) X 56 (by simp at h1; omega) (by simp at h1; omega)
  simpa [grN,Int.add_comm] using this
 ·have:=zqbe 0 X 64 (by simp at h1; omega) (by simp at h1; omega)
  simpa [grN,Int.add_comm] using this
theorem zqeq {w:World} {v:Value} {h:Int} {t:List Int} (hv:Ints .u8 w v (h :: t)):∃ b off cap,v = .slice (some ⟨b,off,none⟩) (t.length + 1) cap ∧ t.length + 1 ≤ cap ∧ b < w.heap.size ∧ w.cell? ⟨b,off,none⟩ = some (.int .u8 h):=by
 obtain ⟨a,cap,rfl,hcap,hh⟩:=hv;rcases hh with h0 | ⟨b,off,e,h1,hc⟩
 ·cases h0
 ·subst e;exact ⟨b,off,cap,rfl,hcap,h1,by have:=hc 0 (by simp); simpa using this⟩
set_option maxHeartbeats 8000000 in
theorem zqk7 (v:Value) (b:List Int) (w:World) (hv:Ints .u8 w v b) (hb:Bt b) (hl:b.length ≤ 1099511627775) :
  Calls Tryz.prog 108 #[v] w fun e w' => e = .returned (trip (getU b)) ∧ Below w.heap.size w w':=by
 cases b with
 | nil =>
  obtain ⟨a,cap,rfl,hcap,-⟩:=hv;go_enter Tryz.func108,Tryz.ntmps108;go_wp2_with fail;exact bodyPost_ret (v:=.tuple #[.int .u64 0,.int .i64 0,.int .i64 5]) (by simp [results,Tryz.results108,go_sem]) rfl ⟨rfl,Below.refl _ _⟩
 | cons h t =>
  have HV:=zh hv;obtain ⟨h0,h255⟩:=hb.head;obtain ⟨b,off,cap,rfl,hcap,hbl,hcell⟩:=zqeq hv;have i0:((t.length:Int) + 1 == 0) = false:=by simp; omega
  have i1:IntKind.i64.wrap h = h:=IntWalk.i64_in _ (by omega)
  by_cases h8:h ≤ 8
  ·have i2:¬ (8:Int) < h:=by omega
   have hnum:=zqwy hb.tail h0 h8;have HE:=zh (show getU (h :: t) = cntd h.toNat (num1 t h.toNat (needF h.toNat) (needL h.toNat 18446744073709551615)) from hnum);clear hnum;obtain ⟨n,rfl⟩:=Int.eq_ofNat_of_zero_le h0;simp only [Int.toNat_natCast] at HE;have HN:=zh (zqid n 18446744073709551615 w (by omega) (by decide) (by decide))
   have HC:=zh (fun w1 (hb1:Below w.heap.size w w1) => zqe3 _ _ t n (needF n) (needL n 18446744073709551615) w1 (HV.out.below hb1) hb.tail (by omega) (by simp at hl; omega))
   clear hb hv;go_enter Tryz.func108,Tryz.ntmps108;go_wp2_with fail;refine (HN.out).mono ?_; rintro e w1 ⟨rfl,hb1⟩;have HB1:=zh hb1;clear hb1;go_wp2_with fail;refine (HC.out _ HB1.out).mono ?_; rintro e w2 ⟨rfl,hb2⟩;have HB2:=zh (HB1.out.trans (hb2.mono HB1.out.size));unfold trip;rw [← HE.out];clear hb2;generalize hr:getU ((n:Int) :: t) = r at *;replace hr:=zh hr;go_wp2_with fail;exact bodyPost_ret (v:=.tuple #[.int .u64 r.1,.int .i64 (r.2.1:Nat),.int .i64 (r.2.2:Nat)]) (by simp [results,Tryz.results108,go_sem]) rfl ⟨by rw [hr.out]; rfl,HB2.out⟩
  ·have i2:(8:Int) < h:=by omega
   have HE:=zh (show getU (h :: t) = (0,0,6) by rw [zqds,if_pos (.inl i2)])
   go_enter Tryz.func108,Tryz.ntmps108;go_wp2_with fail;exact bodyPost_ret (v:=.tuple #[.int .u64 0,.int .i64 0,.int .i64 6]) (by simp [results,Tryz.results108,go_sem]) rfl ⟨by rw [HE.out]; rfl,Below.refl _ _⟩
def tripI (r:Int × Nat × Nat):Value:=.tuple #[.int .i64 r.1,.int .i64 (r.2.1:Nat),.int .i64 (r.2.2:Nat)]
set_option maxHeartbeats 8000000 in
theorem zqug (v:Value) (h:Int) (t:List Int) (w:World) (hv:Ints .u8 w v (h :: t)) (hb:Bt (h :: t)) (hl:t.length ≤ 1099511627774) (h9:9 ≤ h) (h17:h ≤ 17) :
  Calls Tryz.prog 110 #[v] w fun e w' => e = .returned (tripI (getI (h :: t))) ∧ Below w.heap.size w w':=by
 have HV:=zh hv;obtain ⟨b,off,cap,rfl,hcap,hbl,hcell⟩:=zqeq hv;have i0:((t.length:Int) + 1 == 0) = false:=by simp; omega
 have i1:IntKind.i64.wrap h = h:=IntWalk.i64_in _ (by omega)
 have i2:¬ (17:Int) < h:=by omega
 have i4:IntKind.i64.wrap (h - 9) = ((h - 9).toNat:Int):=by rw [IntWalk.i64_in _ (by omega)]; omega
 have hnum:=zqmh hb.tail (by omega) h17
 have hsz:sizeI h = (h - 9).toNat:=by unfold sizeI; rw [if_neg (by omega)]
 have hsp:spanI h = (needF (sizeI h),needL (sizeI h) 9223372036854775807):=by unfold spanI; rw [if_neg (by omega)]
 rw [hsp,hsz] at hnum;have hn8:(h - 9).toNat ≤ 8:=by omega
 have HE:=zh (show getI (h :: t) = cntd (h - 9).toNat (num1 t (h - 9).toNat (needF (h - 9).toNat) (needL (h - 9).toNat 9223372036854775807)) by
  rw [hnum]; unfold cntd; simp only [show ¬ h < 9 by omega,if_false])
 have hrg:=zqi7 hn8 (most:=9223372036854775807) (by decide)
 have hok:=zqoy (n:=(h - 9).toNat) (f:=needF (h - 9).toNat) (l:=needL (h - 9).toNat 9223372036854775807) hb.tail;have hlo:=zqao hb.tail (f:=0) (by decide) (by decide) (h - 9).toNat
 have hwx:IntKind.i64.wrap (getI (h :: t)).1 = (getI (h :: t)).1:=by
  rw [HE.out];unfold cntd
  split
  ·rename_i h0;have:=hok h0;exact IntWalk.i64_in _ (by simp only; omega)
  ·rfl
 have HN:=zh (zqid (h - 9).toNat 9223372036854775807 w hn8 (by decide) (by decide))
 have HC:=zh (fun w1 (hb1:Below w.heap.size w w1) => zqe3 _ _ t (h - 9).toNat (needF (h - 9).toNat) (needL (h - 9).toNat 9223372036854775807) w1 (HV.out.below hb1) hb.tail hn8 (by omega))
 clear hok hrg hlo hsz hsp hb hv hnum;generalize (h - 9).toNat = n at *;go_enter Tryz.func110,Tryz.ntmps110;go_wp2_with fail;refine (HN.out).mono ?_; rintro e w1 ⟨rfl,hb1⟩;have HB1:=zh hb1;clear hb1;go_wp2_with fail;refine (HC.out _ HB1.out).mono ?_; rintro e w2 ⟨rfl,hb2⟩;have HB2:=zh (HB1.out.trans (hb2.mono HB1.out.size));unfold trip;rw [← HE.out];clear hb2;generalize hr:getI (h :: t) = r at *;replace hr:=zh hr;go_wp2_with fail;exact bodyPost_ret (v:=.tuple #[.int .i64 r.1,.int .i64 (r.2.1:Nat),.int .i64 (r.2.2:Nat)]) (by simp [results,Tryz.results110,go_sem]) rfl ⟨by rw [hr.out]; rfl,HB2.out⟩
set_option maxHeartbeats 8000000 in
theorem zquf (v:Value) (h:Int) (t:List Int) (w:World) (hv:Ints .u8 w v (h :: t)) (hb:Bt (h :: t)) (hl:t.length ≤ 1099511627774) (h9:h < 9) :
  Calls Tryz.prog 110 #[v] w fun e w' => e = .returned (tripI (getI (h :: t))) ∧ Below w.heap.size w w':=by
 have HV:=zh hv;obtain ⟨b,off,cap,rfl,hcap,hbl,hcell⟩:=zqeq hv;obtain ⟨h0,h255⟩:=hb.head;have i0:((t.length:Int) + 1 == 0) = false:=by simp; omega
 have i1:IntKind.i64.wrap h = h:=IntWalk.i64_in _ (by omega)
 have i2:¬ (17:Int) < h:=by omega
 have hnum:=zqmh hb.tail (by omega) (show h ≤ 17 by omega)
 have hsz:sizeI h = (8 - h).toNat:=by unfold sizeI; rw [if_pos (by omega)]
 have hsp:spanI h = (grN (sizeI h) - needL (sizeI h) 9223372036854775807,grN (sizeI h) - needF (sizeI h)):=by unfold spanI; rw [if_pos (by omega)]
 rw [hsp,hsz] at hnum;have hn8:(8 - h).toNat ≤ 8:=by omega
 have i4:IntKind.i64.wrap (8 - h) = ((8 - h).toNat:Int):=by rw [IntWalk.i64_in _ (by omega)]; omega
 generalize (8 - h).toNat = n at *;have hrg:=zqi7 hn8 (most:=9223372036854775807) (by decide)
 have hgr:=zqft hn8;have hok:=zqoy (n:=n) (f:=grN n - needL n 9223372036854775807) (l:=grN n - needF n) hb.tail;have hlo:=zqao hb.tail (f:=0) (by decide) (by decide) n
 have hgd:grN n = 256 ^ n - 1:=rfl;have hor:=zq1m (x:=fillN t 0 n) hn8 hlo.1 hlo.2;have hn63:grN n ≤ 9223372036854775807 ∨ grN n = 18446744073709551615:=by
  have h:n = 0 ∨ n = 1 ∨ n = 2 ∨ n = 3 ∨ n = 4 ∨ n = 5 ∨ n = 6 ∨ n = 7 ∨ n = 8:=by omega
  rcases h with rfl | rfl | rfl | rfl | rfl | rfl | rfl | rfl | rfl <;> decide
 have HN:=zh (zqid n 9223372036854775807 w hn8 (by decide) (by decide))
 have HK:=zh (fun w => zqso (needF n) (needL n 9223372036854775807) n w hn8 hrg.1 hrg.2.1 hrg.2.2.1 hrg.2.2.2.1)
 have HC:=zh (fun w1 (hb1:Below w.heap.size w w1) => zqe3 _ _ t n (grN n - needL n 9223372036854775807) (grN n - needF n) w1 (HV.out.below hb1) hb.tail hn8 (by omega))
 have HG:=zh (fun w => zqep n w hn8)
 have hnot:=not64 (grN n) hgr.1 hgr.2;generalize num1 t n (grN n - needL n 9223372036854775807) (grN n - needF n) = r at *;generalize needL n 9223372036854775807 = L at *;generalize needF n = F at *;generalize grN n = g at *;obtain ⟨x,er⟩:=r;simp only [h9,if_true] at hnum hok
 by_cases he:er = 0
 ·subst he;obtain ⟨o1,o2,o3⟩:=hok rfl;rw [if_pos rfl] at hnum;have HE:=zh hnum;clear hnum hok;generalize fillN t 0 n = lo at *;subst o1;have hwr:IntKind.i64.wrap (x + (18446744073709551615 - g)) = x - 256 ^ n:=by
   rw [IntKind.wrap_i64]; omega
  have hwr2:wrap64 (x + (18446744073709551615 - g)) = x - 256 ^ n:=by unfold wrap64; omega
  clear hb hv hgd hn63 hrg hgr o2 o3;unfold cntd at HC;rw [if_pos rfl] at HC;go_enter Tryz.func110,Tryz.ntmps110;go_wp2_with fail;refine (HN.out).mono ?_; rintro e w1 ⟨rfl,hb1⟩;have HB1:=zh hb1;clear hb1;go_wp2_with fail;refine (HK.out _).mono ?_; rintro e w2 ⟨rfl,hb2⟩;have HB2:=zh (HB1.out.trans (hb2.mono HB1.out.size));clear hb2;go_wp2_with fail;refine (HC.out _ HB2.out).mono ?_; rintro e w3 ⟨rfl,hb3⟩;have HB3:=zh (HB2.out.trans (hb3.mono HB2.out.size));clear hb3;unfold trip;go_wp2_with fail;refine (HG.out _).mono ?_; rintro e w4 ⟨rfl,rfl⟩;go_wp2_with fail;exact bodyPost_ret (v:=.tuple #[.int .i64 (x - 256 ^ n),.int .i64 ((1 + n:Nat):Int),.int .i64 0]) (by simp [results,Tryz.results110,go_sem]) rfl ⟨by rw [HE.out]; rfl,HB3.out⟩
 ·rw [if_neg he] at hnum;have HE:=zh hnum;have hne:((er:Int) == 0) = false:=by simp; omega
  clear hnum hok hb hv hlo hgd hn63 hrg hgr hor hnot;unfold cntd at HC;rw [if_neg he] at HC;go_enter Tryz.func110,Tryz.ntmps110;go_wp2_with fail;refine (HN.out).mono ?_; rintro e w1 ⟨rfl,hb1⟩;have HB1:=zh hb1;clear hb1;go_wp2_with fail;refine (HK.out _).mono ?_; rintro e w2 ⟨rfl,hb2⟩;have HB2:=zh (HB1.out.trans (hb2.mono HB1.out.size));clear hb2;go_wp2_with fail;refine (HC.out _ HB2.out).mono ?_; rintro e w3 ⟨rfl,hb3⟩;have HB3:=zh (HB2.out.trans (hb3.mono HB2.out.size));clear hb3;unfold trip;go_wp2_with fail;exact bodyPost_ret (v:=.tuple #[.int .i64 0,.int .i64 0,.int .i64 (er:Int)]) (by simp [results,Tryz.results110,go_sem]) rfl ⟨by rw [HE.out]; rfl,HB3.out⟩
theorem zque (v:Value) (b:List Int) (w:World) (hv:Ints .u8 w v b) (hb:Bt b) (hl:b.length ≤ 1099511627775) :
  Calls Tryz.prog 110 #[v] w fun e w' => e = .returned (tripI (getI b)) ∧ Below w.heap.size w w':=by
 cases b with
 | nil =>
  obtain ⟨a,cap,rfl,hcap,-⟩:=hv;go_enter Tryz.func110,Tryz.ntmps110;go_wp2_with fail;exact bodyPost_ret (v:=.tuple #[.int .i64 0,.int .i64 0,.int .i64 5]) (by simp [results,Tryz.results110,go_sem]) rfl ⟨rfl,Below.refl _ _⟩
 | cons h t =>
  simp only [List.length_cons] at hl
  by_cases h9:h < 9
  ·exact zquf v h t w hv hb (by omega) h9
  ·by_cases h17:h ≤ 17
   ·exact zqug v h t w hv hb (by omega) (by omega) h17
   ·obtain ⟨b,off,cap,rfl,hcap,hbl,hcell⟩:=zqeq hv;obtain ⟨h0,h255⟩:=hb.head;have i0:((t.length:Int) + 1 == 0) = false:=by simp; omega
    have i1:IntKind.i64.wrap h = h:=IntWalk.i64_in _ (by omega)
    have i2:(17:Int) < h:=by omega
    have HE:=zh (show getI (h :: t) = (0,0,6) by
     rw [zqb5,if_pos];left;unfold sizeI; rw [if_neg h9]; omega)
    go_enter Tryz.func110,Tryz.ntmps110;go_wp2_with fail;exact bodyPost_ret (v:=.tuple #[.int .i64 0,.int .i64 0,.int .i64 6]) (by simp [results,Tryz.results110,go_sem]) rfl ⟨by rw [HE.out]; rfl,Below.refl _ _⟩
set_option maxRecDepth 100000
open Go.RowKit
set_option linter.unusedVariables false
def strB (l:List Int):ByteArray:=⟨(l.map fun x => UInt8.ofNat x.toNat).toArray⟩
theorem zqdp {w:World} {v:Value} {l:List Int} (h:Ints .u8 w v l) (hb:Bt l):(convert 36 9 v).run Tryz.prog w = .ok (.string (strB l)) w:=by
 obtain ⟨a,cap,rfl,-,h0 | ⟨b,off,rfl,hbl,hcell⟩⟩:=h
 ·subst h0;show (convert 36 9 (.slice a 0 cap)).run Tryz.prog w = _
  rw [run_convert_bytes_string w 36 9 5 _ 0 cap Tryz.underlying36 Tryz.underlying5 Tryz.underlying9];cases a <;> simp [Conv.bytesToString,loadCells]
  all_goals rfl
 have hlen:(l.map fun x => UInt8.ofNat x.toNat).length = l.length:=by simp
 have:=run_convert_bytes_back (P:=Tryz.prog) w 36 9 5 ⟨b,off,none⟩ cap (l.map fun x => UInt8.ofNat x.toNat) Tryz.underlying36 Tryz.underlying5 Tryz.underlying9 (fun j hj => by
  have hj2:j < l.length:=by simpa using hj
  have hc:=hcell j hj2;have hm:=hb _ (List.getElem_mem hj2);have e:l.getD j 0 = (((l.map fun x => UInt8.ofNat x.toNat)[j]).toNat:Int):=by
   rw [List.getElem_map,UInt8.toNat_ofNat_of_lt' (by show _ < 256; omega),List.getD,List.getElem?_eq_getElem hj2]
   show l[j] = _
   omega
  rw [e] at hc
  by_cases h0:j = 0
  ·subst h0; simpa [Addr.add] using hc
  ·simpa [Addr.add,h0] using hc)
 rw [hlen] at this;exact this
theorem zqxb:keyI 18442240474082181120 = 4503599627370495:=by decide
theorem zqxc:keyI 9218868437227405312 = 18442240474082181120:=by decide
theorem zqzy:keyI 9221120237041090561 = 18446744073709551615:=by decide
theorem zqs7 (w:World):Calls Tryz.prog 147 #[.int .i64 (-1)] w fun e w' => e = .returned (.float .f64 18442240474082181120) ∧ w = w':=by
 have hG:=fun n w => ffrom n w
 go_enter Tryz.func147,Tryz.ntmps147;go_wp2
 all_goals (go_ret; exact ⟨rfl,rfl⟩)
theorem zqbz {k:Int} (h:Keyed k):W64 (fromN k) ∧ keyI (fromN k) = k ∧ (k = 18446744073709551615 ∨ isNaNB (fromN k) = false) ∧ 0 ≤ k ∧ k ≤ 18446744073709551615:=by
 unfold Keyed at h
 by_cases e:k = 18446744073709551615
 ·subst e;refine ⟨by unfold fromN; rw [if_pos rfl]; unfold W64; decide,by unfold fromN; rw [if_pos rfl]; decide,.inl rfl,by decide,by decide⟩
 ·have h':4503599627370495 ≤ k ∧ k ≤ 18442240474082181120:=by omega
  obtain ⟨h0,h1⟩:=h';unfold fromN;rw [if_neg e]
  by_cases g:9223372036854775808 ≤ k
  ·rw [if_pos g];have hx:(k - 9223372036854775808).toNat < 9223372036854775808 ∧ (k - 9223372036854775808).toNat ≤ 9218868437227405312 ∧ (((k - 9223372036854775808).toNat:Nat):Int) = k - 9223372036854775808:=by omega
   generalize (k - 9223372036854775808).toNat = x at *;have hn:isNaNB x = false:=by unfold isNaNB; rw [decide_eq_false_iff_not]; omega
   have hg:negB x = false:=by unfold negB; rw [decide_eq_false_iff_not]; omega
   refine ⟨by unfold W64; omega,?_,.inr hn,by omega,by omega⟩
   unfold keyI; rw [hn,hg]; simp only [Bool.false_eq_true,if_false]; omega
  ·rw [if_neg g];have hx:9223372036854775808 ≤ (18446744073709551615 - k).toNat ∧ (18446744073709551615 - k).toNat ≤ 18442240474082181120 ∧ (((18446744073709551615 - k).toNat:Nat):Int) = 18446744073709551615 - k:=by omega
   generalize (18446744073709551615 - k).toNat = x at *;have hn:isNaNB x = false:=by unfold isNaNB; rw [decide_eq_false_iff_not]; omega
   have hg:negB x = true:=by unfold negB; rw [decide_eq_true_iff]; omega
   refine ⟨by unfold W64; omega,?_,.inr hn,by omega,by omega⟩
   unfold keyI; rw [hn,hg]; simp only [Bool.false_eq_true,if_false,if_true]; omega
theorem zqb6 {x:Nat} (hx:W64 x):Keyed (keyI x):=by
 unfold W64 at hx;unfold keyI Keyed
 split
 ·left; rfl
 ·rename_i hn;have hn:isNaNB x = false:=by simpa using hn
  unfold isNaNB at hn;rw [decide_eq_false_iff_not] at hn
  split
  ·rename_i hg;unfold negB at hg;rw [decide_eq_true_iff] at hg;right; omega
  ·rename_i hg;unfold negB at hg;rw [decide_eq_true_iff] at hg;right; omega
theorem zqvd {w:World} {g:Nat} {a b c d:Int} (h:w.heap[g]? = some (.cells #[.int .u64 a,.int .u64 b,.int .u64 c,.int .u64 d] 194)) (hg:g < w.heap.size):Spans w (.slice (some ⟨g,0,none⟩) 2 2) [(a,b),(c,d)]:=by
 refine ⟨_,rfl,hg,fun i hi => ?_⟩
 have:i = 0 ∨ i = 1:=by simp at hi; omega
 rcases this with rfl | rfl
 ·exact ⟨by rw [cell_of_row w g 0 _ _ _ h]; rfl,by rw [cell_of_row w g 1 _ _ _ h]; rfl⟩
 ·exact ⟨by rw [cell_of_row w g 2 _ _ _ h]; rfl,by rw [cell_of_row w g 3 _ _ _ h]; rfl⟩
def tripF (r:Int × Nat):Value:=if r.2 = 0 then .tuple #[.float .f64 (fromN r.1),.int .i64 8,.int .i64 0] else .tuple #[.float .f64 0,.int .i64 0,.int .i64 (r.2:Nat)]
theorem zqqc {b:List Int} (h:(getF b).2 = 0):Keyed (getF b).1:=by
 unfold getF at h ⊢
 split at h
 ·rename_i hl;rw [if_pos hl]
  split at h
  ·rename_i hk; rw [if_pos hk]; exact hk
  ·cases h
 ·split at h <;> cases h
set_option maxHeartbeats 8000000 in
theorem zqud (v:Value) (b:List Int) (w:World) (hv:Ints .u8 w v b) (hb:Bt b) (hl:b.length ≤ 1099511627775) :
  Calls Tryz.prog 114 #[v] w fun e w' => e = .returned (tripF (getF b)) ∧ Below w.heap.size w w':=by
 have HV:=zh hv;obtain ⟨a,cap,rfl,hcap,-⟩:=hv;have HI1:=zh (fun w => zqs7 w)
 have HI2:=zh (fun w => zqwm w)
 have HI3:=zh (fun w => zqmf w)
 have hK1:=fun w => zqdb 18442240474082181120 w (by unfold W64; decide)
 have hK2:=fun w => zqdb 9218868437227405312 w (by unfold W64; decide)
 have hK3:=fun w => zqdb 9221120237041090561 w (by unfold W64; decide)
 simp only [zqxb] at hK1;simp only [zqxc] at hK2;simp only [zqzy] at hK3;have HK1:=zh hK1;have HK2:=zh hK2;have HK3:=zh hK3;clear hK1 hK2 hK3;have HN:=zh (fun s w1 (hb1:Below w.heap.size w w1) (hs:Spans w1 s [(4503599627370495,18442240474082181120),(18446744073709551615,18446744073709551615)]) => zqi8 _ s b 8 _ w1 (HV.out.below hb1) hb (by decide) (by omega) hs (by simp))
 simp only [zqxq,zqwu hb] at HN;have HKd:=zh (fun h => zqbz (zqqc (b:=b) h))
 generalize hr:getF b = r at *;obtain ⟨k,e⟩:=r;simp only at HN HKd;replace hr:=zh hr;have hB2:Below w.heap.size w (((w.alloc (.cells #[.int .u64 4503599627370495,.int .u64 18442240474082181120] 194)).alloc (.cells #[.int .u64 18446744073709551615,.int .u64 18446744073709551615] 194)).alloc (.cells #[.int .u64 4503599627370495,.int .u64 18442240474082181120,.int .u64 18446744073709551615,.int .u64 18446744073709551615] 194)):=((zqab w _).alloc (by simp) _).alloc (by simp; omega) _
 have hS2:Spans (((w.alloc (.cells #[.int .u64 4503599627370495,.int .u64 18442240474082181120] 194)).alloc (.cells #[.int .u64 18446744073709551615,.int .u64 18446744073709551615] 194)).alloc (.cells #[.int .u64 4503599627370495,.int .u64 18442240474082181120,.int .u64 18446744073709551615,.int .u64 18446744073709551615] 194)) (.slice (some ⟨w.heap.size + 1 + 1,0,none⟩) 2 2) [(4503599627370495,18442240474082181120),(18446744073709551615,18446744073709551615)] :=
  zqvd (by have:=heap_alloc_new ((w.alloc (.cells #[.int .u64 4503599627370495,.int .u64 18442240474082181120] 194)).alloc (.cells #[.int .u64 18446744073709551615,.int .u64 18446744073709551615] 194)) (.cells #[.int .u64 4503599627370495,.int .u64 18442240474082181120,.int .u64 18446744073709551615,.int .u64 18446744073709551615] 194); rw [World.size_alloc,World.size_alloc] at this; exact this) (by simp)
 have HB2:=zh hB2;have HS2:=zh hS2;clear hB2 hS2;go_enter Tryz.func114,Tryz.ntmps114;go_wp2_with fail;refine (HI1.out _).mono ?_; rintro e w1 ⟨rfl,rfl⟩;go_wp2_with fail;refine (HK1.out _).mono ?_; rintro e w1 ⟨rfl,rfl⟩;go_wp2_with fail;refine (HI2.out _).mono ?_; rintro e w1 ⟨rfl,rfl⟩;go_wp2_with fail;refine (HK2.out _).mono ?_; rintro e w1 ⟨rfl,rfl⟩;go_wp2_with fail;refine (HI3.out _).mono ?_; rintro e w1 ⟨rfl,rfl⟩;go_wp2_with fail;refine (HK3.out _).mono ?_; rintro e w1 ⟨rfl,rfl⟩;go_wp2_with fail;refine (HI3.out _).mono ?_; rintro e w1 ⟨rfl,rfl⟩;go_wp2_with fail;refine (HK3.out _).mono ?_; rintro e w1 ⟨rfl,rfl⟩;go_wp2_with fail;refine (HN.out _ _ HB2.out HS2.out).mono ?_; rintro e' w1 ⟨rfl,hb1⟩;have HB3:=zh (HB2.out.trans (hb1.mono HB2.out.size));clear hb1
 by_cases he:e = 0
 ·subst he;obtain ⟨k1,k2,k3,k4,k5⟩:=HKd.out rfl;have HF:=zh (zqsw k w1 k4 k5);go_wp2_with fail;refine (HF.out).mono ?_; rintro e' w2 ⟨hp,rfl⟩;have hp:e' = .returned (.tuple #[.float .f64 (fromN k),.bool true]):=by
   rcases hp with ⟨a1,a2,-⟩ | ⟨-,h⟩
   ·rcases k3 with h | h
    ·exact absurd h a1
    ·rw [h] at a2; cases a2
   ·exact h
  subst hp;clear k1 k2 k3 k4 k5;generalize hx:fromN k = x at *;replace hx:=zh hx;go_wp2_with fail;exact bodyPost_ret (v:=.tuple #[.float .f64 x,.int .i64 8,.int .i64 0]) (by simp [results,Tryz.results114,go_sem]) rfl ⟨by unfold tripF; rw [if_pos rfl,hx.out],HB3.out⟩
 ·have hne:((e:Int) == 0) = false:=by simp; omega
  go_wp2_with fail;exact bodyPost_ret (v:=.tuple #[.float .f64 0,.int .i64 0,.int .i64 (e:Int)]) (by simp [results,Tryz.results114,go_sem]) rfl ⟨by unfold tripF; rw [if_neg he],HB3.out⟩
end Go.Proofs.YtafmghloohhaeaaGreatDoor
