/- Contracts that the law leans on: Exe. -/
import Derived.RegionTactic
import Derived.Test.YtmnbljijnbhghaaGreatDoorPt02
import Derived.Test.YtmnbljijnbhghaaGreatDoorPt13
namespace Go.Proofs.YtmnbljijnbhghaaGreatDoor
set_option maxRecDepth 100000
open Go.RowKit
set_option linter.unusedVariables false
def unitsN (r:Nat):Nat:=if r / 4503599627370496 = 0 then r else (r % 4503599627370496 + 4503599627370496) * 2 ^ (r / 4503599627370496 - 1)
theorem zqe8 {c:Nat} {q:Int} (hc:Canon c q):unitsN (rungOf c q) = c * 2 ^ (q + 1074).toNat:=by
 obtain ⟨h1,h2,h3⟩:=hc;unfold unitsN rungOf;generalize hj:(q + 1074).toNat = j;rcases h3 with h3 | h3
 ·have e1:(j * 4503599627370496 + c) / 4503599627370496 = j + 1:=by omega
  have e2:(j * 4503599627370496 + c) % 4503599627370496 + 4503599627370496 = c:=by omega
  rw [e1,e2,if_neg (by omega),Nat.add_sub_cancel]
 ·obtain rfl:j = 0:=by omega
  by_cases h4:c < 4503599627370496
  ·rw [if_pos (by omega)]; simp
  ·have e1:(0 * 4503599627370496 + c) / 4503599627370496 = 1:=by omega
   have e2:(0 * 4503599627370496 + c) % 4503599627370496 + 4503599627370496 = c:=by omega
   rw [e1,e2,if_neg (by omega)]
theorem zqr0:unitsN 0 = 0:=by decide
theorem zqq7 {r:Nat} (h0:r ≠ 0) (hr:r < 9218868437227405312):nearW (unitsN r) (-1074) = r ∧ unitsN r ≠ 0:=by
 obtain ⟨c,q,hc,hq,hc0,rfl⟩:=zqd0 (by omega) hr
 rw [zqe8 hc];have hz:c * 2 ^ (q + 1074).toNat ≠ 0:=Nat.mul_ne_zero hc0 (Nat.ne_of_gt (Nat.two_pow_pos _));refine ⟨?_,hz⟩;have hF:=fvc hc hq;obtain ⟨h1,h2,h3⟩:=hc;have hS:SameD (c * 2 ^ (q + 1074).toNat) (-1074) c q:=⟨(q + 1074).toNat,.inr ⟨by omega,rfl⟩⟩
 rw [zqtt (-1074) hz];have hN:=FV.nearest hF (SameD.refl c q);generalize hj:(q + 1074).toNat = j at *;have hU:max ((bitsZ ((c * 2 ^ j:Nat):Int):Int) + -1074 - 53) (-1074) = q:=by
  have hb:bitsZ ((c * 2 ^ j:Nat):Int) = bitsZ (c:Int) + j:=by
   unfold bitsZ;rw [if_neg (by omega),if_neg (by omega),Int.toNat_natCast,Int.toNat_natCast,zqct hc0]; omega
  have hc53:bitsZ (c:Int) ≤ 53:=zqf7 hc0 (by
   have:(2:Nat) ^ 53 = 9007199254740992:=by decide
   omega)
  rw [hb];rcases h3 with h3 | h3
  ·have:¬ bitsZ (c:Int) ≤ 52:=fun hh => by
    have:=zqdw hh;have h52:(2:Nat) ^ 52 = 4503599627370496:=by decide
    omega
   omega
  ·omega
 have hR:rN (c * 2 ^ j) (bitsZ ((c * 2 ^ j:Nat):Int)) (-1074) = c:=by
  unfold rN rU;rw [hU]
  by_cases hq':q ≤ -1074
  ·obtain rfl:j = 0:=by omega
   rw [if_pos hq',show (-1074 - q).toNat = 0 by omega]; simp
  ·rw [if_neg hq',show (q - -1074).toNat = j by omega]
   unfold rndN;rw [Nat.mul_mod_left,Nat.mul_div_cancel _ (Nat.two_pow_pos j),if_neg (by have:=Nat.two_pow_pos j; omega)]
 have hU':=hU;rw [hR];unfold rU;rw [hU,if_neg (by omega)]
 exact hN
theorem zqxx {r K:Nat} (hr:r < 9218868437227405312) (hK:2098 ≤ K):unitsN r < 2 ^ K:=by
 by_cases h0:r = 0
 ·subst h0; rw [zqr0]; exact Nat.two_pow_pos _
 obtain ⟨c,q,hc,hq,hc0,rfl⟩:=zqd0 (by omega) hr
 rw [zqe8 hc];have h1:c < 2 ^ 53:=by
  have:(2:Nat) ^ 53 = 9007199254740992:=by decide
  have:=hc.1; omega
 have h2:c * 2 ^ (q + 1074).toNat < 2 ^ 53 * 2 ^ (q + 1074).toNat:=Nat.mul_lt_mul_of_pos_right h1 (Nat.two_pow_pos _);rw [← Nat.pow_add] at h2;exact Nat.lt_of_lt_of_le h2 (Nat.pow_le_pow_right (by decide) (by omega))
def flagN (x:Nat):Nat:=if isNaNB x then 1 else if isInfB x then (if negB x then 4 else 2) else if isZeroB x then (if negB x then 8 else 16) else 16
def unitsI (x:Nat):Int:=if kindI x = 1 then signed (negB x) (unitsN (x % 9223372036854775808):Nat) else 0
def Fewer (n:Nat) (t:Int):Prop:=∀ K:Nat,K = 2098 → t.natAbs ≤ n * 2 ^ K
theorem Fewer.zero:Fewer 0 0:=fun K _ => by simp
theorem Fewer.add {m n:Nat} {s t:Int} (h:Fewer m s) (k:Fewer n t):Fewer (m + n) (s + t):=fun K hK => by
 have h1:=h K hK;have h2:=k K hK;rw [Nat.add_mul];have:=Int.natAbs_add_le s t;omega
theorem zqjw (b:Bool) (z:Nat):(signed b (z:Int)).natAbs = z:=by cases b <;> simp [signed]
theorem zqkx (x:Nat) (hx:W64 x):Fewer 1 (unitsI x):=fun K hK => by
 unfold unitsI
 by_cases h:kindI x = 1
 ·obtain ⟨-,-,-,-,h5⟩:=zqd7 hx h;rw [if_pos h,zqjw,Nat.one_mul];exact Nat.le_of_lt (zqxx h5 (by omega))
 ·rw [if_neg h]; simp
def Fits (t:Int):Prop:=bitsZ (t.natAbs:Int) ≤ 2240
theorem Fewer.fits {n:Nat} {t:Int} (h:Fewer n t) (hn:n ≤ 1000):Fits t:=by
 unfold Fits
 by_cases h0:t.natAbs = 0
 ·rw [h0]; exact Nat.zero_le _
 ·obtain ⟨K,hK⟩:∃ K:Nat,K = 2098:=⟨_,rfl⟩
  have h1:=h K hK;have h10:(2:Nat) ^ 10 = 1024:=by decide
  have h2:n * 2 ^ K < 2 ^ 10 * 2 ^ K:=Nat.mul_lt_mul_of_pos_right (by omega) (Nat.two_pow_pos _)
  rw [← Nat.pow_add] at h2;have h3:=zqf7 h0 (Nat.lt_of_le_of_lt h1 h2);omega
def Good (f:Nat) (t:Int):Prop:=f < 32 ∧ (t ≠ 0 → f.testBit 4 = true) ∧ Fits t
theorem zqs4:Good 0 0:=⟨by decide,fun h => absurd rfl h,by unfold Fits; decide⟩
theorem or_lt {f g:Nat} (hf:f < 32) (hg:g < 32):f ||| g < 32:=Nat.or_lt_two_pow (n:=5) hf hg
theorem Good.join {f g:Nat} {s t:Int} (h:Good f s) (k:Good g t) (hr:Fits (s + t)):Good (f ||| g) (s + t):=by
 refine ⟨or_lt h.1 k.1,fun hh => ?_,hr⟩
 rw [Nat.testBit_or]
 by_cases hs:s = 0
 ·rw [k.2.1 (by omega)]; simp
 ·rw [h.2.1 hs]; simp
theorem zqi5 (x:Nat):flagN x = 1 ∨ flagN x = 2 ∨ flagN x = 4 ∨ flagN x = 8 ∨ flagN x = 16:=by
 unfold flagN; split
 ·exact .inl rfl
 ·split
  ·split
   ·exact .inr (.inr (.inl rfl))
   ·exact .inr (.inl rfl)
  ·split
   ·split
    ·exact .inr (.inr (.inr (.inl rfl)))
    ·exact .inr (.inr (.inr (.inr rfl)))
   ·exact .inr (.inr (.inr (.inr rfl)))
theorem zqmv {x:Nat} (hx:W64 x) (h:kindI x = 1):flagN x = 16:=by
 obtain ⟨h1,h2,h3,-,-⟩:=zqd7 hx h;unfold flagN; rw [h1,h2,h3]; rfl
theorem zqmx (x:Nat) (hx:W64 x):Good (flagN x) (unitsI x):=by
 refine ⟨by rcases zqi5 x with h | h | h | h | h <;> omega,fun hh => ?_,(zqkx x hx).fits (by decide)⟩
 by_cases h:kindI x = 1
 ·rw [zqmv hx h]; decide
 ·exact absurd (by unfold unitsI; rw [if_neg h]) hh
set_option maxRecDepth 100000
open Go.RowKit
set_option linter.unusedVariables false
theorem zqs7 {x:Nat} (hx:W64 x):(FloatKind.f64.format.order x 9218868437227405311 == some .gt) = (isInfB x && !negB x):=by
 have h9:notNan 9218868437227405311:=⟨by decide,by decide⟩
 by_cases h:isNaNB x = true
 ·rw [zqbq h];have:=zqgi h;have e:isInfB x = false:=by unfold isInfB; simp; omega
  rw [e]; rfl
 ·have h':isNaNB x = false:=by simpa using h
  have hn:=zqal hx h';have hn2:=hn.2;rw [zqtz hn h9,zqbg (x:=9218868437227405311) (by omega)]
  unfold isInfB negB
  by_cases hs:9223372036854775808 ≤ x
  ·rw [zqnp hs]; simp [hs]; omega
  ·rw [zqbg (by omega)]; simp [hs]; omega
theorem zqz4 {x:Nat} (hx:W64 x):(FloatKind.f64.format.order (flipN x) 9218868437227405311 == some .gt) = (isInfB x && negB x):=by
 have e:isInfB (flipN x) = isInfB x:=by
  unfold isInfB flipN; unfold W64 at hx
  by_cases hs:x < 9223372036854775808
  ·rw [if_pos hs,decide_eq_decide]; omega
  ·rw [if_neg hs,decide_eq_decide]; omega
 have e2:negB (flipN x) = !negB x:=by
  unfold negB flipN; unfold W64 at hx
  by_cases hs:x < 9223372036854775808
  ·rw [if_pos hs,decide_eq_true (by omega),decide_eq_false (by omega)]; rfl
  ·rw [if_neg hs,decide_eq_false (by omega),decide_eq_true (by omega)]; rfl
 rw [zqs7 (zqwi hx),e,e2,Bool.not_not]
theorem zqwq (x:Nat) (w:World) (hx:W64 x) :
  Calls Tryz.prog 204 #[.float .f64 x,.int .i64 1] w fun e w' => e = .returned (.bool (isInfB x && !negB x)) ∧ w = w':=by
 have H:=zqs7 hx;generalize (isInfB x && !negB x) = a at *;go_enter Tryz.func204,Tryz.ntmps204;go_wp2_with fail
 all_goals (go_ret; exact ⟨rfl,rfl⟩)
theorem zqwp (x:Nat) (w:World) (hx:W64 x) :
  Calls Tryz.prog 204 #[.float .f64 x,.int .i64 (-1)] w fun e w' => e = .returned (.bool (isInfB x && negB x)) ∧ w = w':=by
 have H:=zqz4 hx;have hN:=fun w => zqzb (P:=Tryz.prog) x hx w
 generalize (isInfB x && negB x) = a at *;generalize flipN x = y at *;go_enter Tryz.func204,Tryz.ntmps204;go_wp2_with fail
 all_goals (go_ret; exact ⟨rfl,rfl⟩)
theorem zqsw (x:Nat):flagN x = if isNaNB x then 1 else if (isInfB x && !negB x) then 2 else if (isInfB x && negB x) then 4 else if isZeroB x then (if negB x then 8 else 16) else 16:=by
 unfold flagN;cases isNaNB x <;> cases isInfB x <;> cases isZeroB x <;> cases negB x <;> rfl
set_option maxHeartbeats 1000000 in
theorem zql5 (x:Nat) (w:World) (hx:W64 x) :
  Calls Tryz.prog 193 #[.float .f64 x] w fun e w' => e = .returned (.int .u8 (flagN x)) ∧ w = w':=by
 have h1:=zh (fun w => zqeo x w hx)
 have h2:=zh (fun w => zqwq x w hx)
 have h3:=zh (fun w => zqwp x w hx)
 have h4:=zh (fun w => zqe6 x w hx)
 have hz:=zqdj x hx;rw [zqsw];generalize isNaNB x = a at *;generalize (isInfB x && !negB x) = p at *;generalize (isInfB x && negB x) = q at *;generalize isZeroB x = z at *;generalize negB x = n at *;clear hx;cases a
 ·cases p
  ·cases q
   ·cases z
    ·go_enter Tryz.func193,Tryz.ntmps193;go_wp2_with (first | ((with_reducible refine (h1.out _).mono ?_); rintro e w' ⟨rfl,rfl⟩) | ((with_reducible refine (h2.out _).mono ?_); rintro e w' ⟨rfl,rfl⟩) | ((with_reducible refine (h3.out _).mono ?_); rintro e w' ⟨rfl,rfl⟩) | ((with_reducible refine (h4.out _).mono ?_); rintro e w' ⟨rfl,rfl⟩))
     go_ret;exact ⟨rfl,rfl⟩
    ·cases n
     all_goals
      go_enter Tryz.func193,Tryz.ntmps193;go_wp2_with (first | ((with_reducible refine (h1.out _).mono ?_); rintro e w' ⟨rfl,rfl⟩) | ((with_reducible refine (h2.out _).mono ?_); rintro e w' ⟨rfl,rfl⟩) | ((with_reducible refine (h3.out _).mono ?_); rintro e w' ⟨rfl,rfl⟩) | ((with_reducible refine (h4.out _).mono ?_); rintro e w' ⟨rfl,rfl⟩))
      go_ret;exact ⟨rfl,rfl⟩
   ·go_enter Tryz.func193,Tryz.ntmps193;go_wp2_with (first | ((with_reducible refine (h1.out _).mono ?_); rintro e w' ⟨rfl,rfl⟩) | ((with_reducible refine (h2.out _).mono ?_); rintro e w' ⟨rfl,rfl⟩) | ((with_reducible refine (h3.out _).mono ?_); rintro e w' ⟨rfl,rfl⟩))
    go_ret;exact ⟨rfl,rfl⟩
  ·go_enter Tryz.func193,Tryz.ntmps193;go_wp2_with (first | ((with_reducible refine (h1.out _).mono ?_); rintro e w' ⟨rfl,rfl⟩) | ((with_reducible refine (h2.out _).mono ?_); rintro e w' ⟨rfl,rfl⟩))
   go_ret;exact ⟨rfl,rfl⟩
 ·go_enter Tryz.func193,Tryz.ntmps193;go_wp2_with (first | ((with_reducible refine (h1.out _).mono ?_); rintro e w' ⟨rfl,rfl⟩))
  go_ret;exact ⟨rfl,rfl⟩
def Cells4 (w:World) (N:Nat) (v:Value) (b:Bool) (f:Nat) (m:Bool):Prop:=w.heap[N]? = some (.cells #[v,.bool b,.int .u8 f,.bool m] 211 (0,0))
theorem Cells4.reads {w:World} {N:Nat} {v:Value} {b m:Bool} {f:Nat} (h:Cells4 w N v b f m) :
  w.cell? ⟨N,0,none⟩ = some v ∧ w.cell? ⟨N,1,none⟩ = some (.bool b) ∧ w.cell? ⟨N,2,none⟩ = some (.int .u8 f) ∧ w.cell? ⟨N,3,none⟩ = some (.bool m):=by
 unfold Cells4 at h;refine ⟨by simp [World.cell?,h],by simp [World.cell?,h],by simp [World.cell?,h],by simp [World.cell?,h]⟩
theorem Cells4.free {w:World} {N:Nat} {v:Value} {b m:Bool} {f:Nat} (h:Cells4 w N v b f m) :
  w.frozen? ⟨N,0,none⟩ = false ∧ w.frozen? ⟨N,1,none⟩ = false ∧ w.frozen? ⟨N,2,none⟩ = false ∧ w.frozen? ⟨N,3,none⟩ = false:=by
 unfold Cells4 at h;refine ⟨by simp [World.frozen?,h],by simp [World.frozen?,h],by simp [World.frozen?,h],by simp [World.frozen?,h]⟩
theorem Cells4.lt {w:World} {N:Nat} {v:Value} {b m:Bool} {f:Nat} (h:Cells4 w N v b f m):N < w.heap.size:=(Array.getElem?_eq_some_iff.1 h).1
theorem Cells4.below {w w':World} {N:Nat} {v:Value} {b m:Bool} {f:Nat} (h:Cells4 w N v b f m) (hb:Below w.heap.size w w'):Cells4 w' N v b f m:=by
 unfold Cells4; rw [hb.block N h.lt]; exact h
theorem Cells4.new (w:World) (v:Value) (b:Bool) (f:Nat) (m:Bool):Cells4 (w.alloc (.cells #[v,.bool b,.int .u8 f,.bool m] 211)) w.heap.size v b f m:=heap_alloc_new w _
theorem IsNum.grown {w w':World} {v:Value} {z:Int} {N:Nat} {cur:Array Value} {T:TypeId} {fr:Nat × Nat} (h:IsNum w v z) (hp:w.heap[N]? = some (.cells cur T fr)) (hne:T ≠ 3) (hg:w.grownBy w' (some N)):IsNum w' v z:=by
 obtain ⟨neg,s,ds,h1,h2,h3,h4⟩:=h;exact ⟨neg,s,ds,h1,h2.grown h3 hp hne hg,h3.grown hp hne hg,h4⟩
def Mag (w:World) (v:Value) (t:Int):Prop:=∃ a,WList w v a ∧ Typed 27 w v ∧ Tidy a ∧ wv a = (t.natAbs:Int)
theorem Mag.below {w w':World} {v:Value} {t:Int} (h:Mag w v t) (hb:Below w.heap.size w w'):Mag w' v t:=by
 obtain ⟨a,h1,h2,h3⟩:=h;exact ⟨a,h1.below hb,h2.below hb,h3⟩
theorem Mag.grown {w w':World} {v:Value} {t:Int} {N:Nat} {u:Value} {b m:Bool} {f:Nat} (h:Mag w v t) (hp:Cells4 w N u b f m) (hg:w.grownBy w' (some N)):Mag w' v t:=by
 obtain ⟨a,h1,h2,h3⟩:=h;exact ⟨a,⟨h1.1.grown h2 hp (by decide) hg,h1.2⟩,h2.grown hp (by decide) hg,h3⟩
def SumAt (w:World) (N:Nat) (f:Nat) (t:Int):Prop:=∃ v,Cells4 w N v (decide (t < 0)) f true ∧ Mag w v t ∧ Good f t
theorem SumAt.lt {w:World} {N f:Nat} {t:Int} (h:SumAt w N f t):N < w.heap.size:=by obtain ⟨v,h,-⟩:=h; exact h.lt
theorem SumAt.good {w:World} {N f:Nat} {t:Int} (h:SumAt w N f t):Good f t:=by obtain ⟨v,-,-,h⟩:=h; exact h
theorem SumAt.below {w w':World} {N f:Nat} {t:Int} (h:SumAt w N f t) (hb:Below w.heap.size w w'):SumAt w' N f t:=by
 obtain ⟨v,h1,h2,h3⟩:=h;exact ⟨v,h1.below hb,h2.below hb,h3⟩
theorem SumAt.grown {w w':World} {M f:Nat} {t:Int} {N g:Nat} {u:Int} (h:SumAt w M f t) (k:SumAt w N g u) (hne:M ≠ N) (hg:w.grownBy w' (some N)):SumAt w' M f t:=by
 obtain ⟨v,h1,h2,h3⟩:=h;obtain ⟨x,k1,-⟩:=k;refine ⟨v,?_,h2.grown k1 hg,h3⟩;unfold Cells4;rw [hg.block M h1.lt (by simpa using hne)]; exact h1
theorem IsNum.sum {w w':World} {v:Value} {z:Int} {N g:Nat} {u:Int} (h:IsNum w v z) (k:SumAt w N g u) (hg:w.grownBy w' (some N)):IsNum w' v z:=by
 obtain ⟨x,k1,-⟩:=k;exact h.grown k1 (by decide) hg
theorem zqm8 {w:World}:Mag w (.slice none 0 0) 0:=⟨[],WList.nil,Typed.none,.inl rfl,by simp [wv,wvN]⟩
theorem Cells4.set {w:World} {N:Nat} {v:Value} {b m:Bool} {f:Nat} (h:Cells4 w N v b f m) (v':Value) (b':Bool) (f':Nat) :
  Cells4 (((w.setCell ⟨N,1,none⟩ (.bool b')).setCell ⟨N,0,none⟩ v').setCell ⟨N,2,none⟩ (.int .u8 f')) N v' b' f' m:=by
 unfold Cells4 at *;simp [World.setCell,Array.getElem?_modify,h]
theorem zqiu (w:World):Calls Tryz.prog 145 #[] w fun e w' => e = .returned (.pointer (some ⟨w.heap.size,0,none⟩)) ∧ w' = w.alloc (.cells #[.slice none 0 0,.bool false,.int .u8 0,.bool true] 211):=by
 go_enter Tryz.func145,Tryz.ntmps145;go_wp2_with fail;go_ret;exact ⟨rfl,rfl⟩
theorem zqzl (w:World):SumAt (w.alloc (.cells #[.slice none 0 0,.bool false,.int .u8 0,.bool true] 211)) w.heap.size 0 0:=⟨_,Cells4.new w _ _ _ _,zqm8,zqs4⟩
theorem zqb6 (w:World) (N:Nat) (v:Value) (b m:Bool) (f:Nat) (h:Cells4 w N v b f m) :
  Calls Tryz.prog 171 #[.pointer (some ⟨N,0,none⟩)] w fun e w' => e = .returned (.bool m) ∧ w = w':=by
 obtain ⟨r0,r1,r2,r3⟩:=h.reads;clear h;go_enter Tryz.func171,Tryz.ntmps171;go_wp2_with fail;go_ret;exact ⟨rfl,rfl⟩
theorem zqfh (a b:Nat) (ha:a < 256) (hb:b < 256):bits .and .u8 (a:Int) (b:Int) = ((a &&& b:Nat):Int):=by
 have hx:a &&& b < 256:=Nat.lt_of_le_of_lt Nat.and_le_left ha;show IntKind.u8.wrap ((BitVec.ofInt 8 (a:Int) &&& BitVec.ofInt 8 (b:Int)).toNat:Int) = _
 have e:∀ c:Nat,c < 256 → (BitVec.ofInt 8 (c:Int)).toNat = c:=fun c hc => by
  rw [BitVec.toNat_ofInt]; simp; omega
 rw [BitVec.toNat_and,e a ha,e b hb];simp [IntKind.wrap,IntKind.bits,IntKind.signed]; omega
theorem zqld (a b:Nat) (ha:a < 256) (hb:b < 256):bits .or .u8 (a:Int) (b:Int) = ((a ||| b:Nat):Int):=by
 have hx:a ||| b < 256:=Nat.or_lt_two_pow (n:=8) ha hb
 show IntKind.u8.wrap ((BitVec.ofInt 8 (a:Int) ||| BitVec.ofInt 8 (b:Int)).toNat:Int) = _
 have e:∀ c:Nat,c < 256 → (BitVec.ofInt 8 (c:Int)).toNat = c:=fun c hc => by
  rw [BitVec.toNat_ofInt]; simp; omega
 rw [BitVec.toNat_or,e a ha,e b hb];simp [IntKind.wrap,IntKind.bits,IntKind.signed]; omega
set_option maxRecDepth 100000
open Go.RowKit
set_option linter.unusedVariables false
def SplitU (b:Bool) (t:Int) (w:World) (e:Ending) (w':World):Prop:=(∃ m k:Int,0 ≤ m ∧ m ≤ 18446744073709551615 ∧ -1074 ≤ k ∧ k ≤ 1023 ∧ (∀ N:Nat,k + 1074 = N → m * 2 ^ N = (t.natAbs:Int)) ∧ e = .returned (.tuple #[.bool b,.int .u64 m,.int .i64 k])) ∧ Drawn w w'
theorem zqzi {x c:Nat} {q:Int} {w:World} (hx:W64 x) (hk:kindI x = 1) (hc:Canon c q) (hq:q ≤ 971) (h0:c ≠ 0) (hr:rungOf c q = x % 9223372036854775808):∀ e w',SplitPost x c q w e w' → SplitU (negB x) (unitsI x) w e w':=by
 rintro e w' ⟨⟨m,k,hs,rfl⟩,hd⟩;have hge:=hs.ge;obtain ⟨s1,s2,s3,s4⟩:=hs;have hb:=zqou hc hq h0 s3;have hq1:=hc.2.1;refine ⟨⟨m,k,by omega,by omega,by omega,by omega,fun N hN => ?_,rfl⟩,hd⟩
 unfold unitsI;rw [if_pos hk,zqjw,← hr,zqe8 hc];have hv:=zqih (b:=-1074) s3 (by omega) (by omega)
 rw [show (k - -1074).toNat = N by omega,show (q - -1074).toNat = (q + 1074).toNat by omega] at hv
 rw [← hv];have:((m.toNat:Nat):Int) = m:=by omega
 simp [this]
theorem zqxa (x c:Nat) (q:Int) (w:World) (hx:W64 x) (hk:kindI x = 1) (hT:Tab64 w):Calls Tryz.prog 194 #[.float .f64 x] w (SplitU (negB x) (unitsI x) w):=by
 obtain ⟨-,-,-,h4,h5⟩:=zqd7 hx hk;obtain ⟨c,q,hc,hq,h0,hr⟩:=zqd0 h4 h5;refine (zqrg x c q w hx hk hc hq h0 hr hT).mono ?_;rintro e w' ⟨⟨m,k,hs,rfl⟩,hd⟩;exact zqzi hx hk hc hq h0 hr _ _ ⟨⟨m,k,hs,rfl⟩,hd⟩
theorem zqu7 {x:Nat} (hx:W64 x) (hk:kindI x = 1):decide (unitsI x < 0) = negB x:=by
 obtain ⟨-,-,-,h4,h5⟩:=zqd7 hx hk;have h6:=(zqq7 (r:=x % 9223372036854775808) (by omega) h5).2
 unfold unitsI;rw [if_pos hk];cases negB x
 ·exact decide_eq_false (by simp [signed])
 ·exact decide_eq_true (by simp [signed]; omega)
theorem zqhs {x:Nat} (hk:kindI x ≠ 1):unitsI x = 0:=by unfold unitsI; rw [if_neg hk]
theorem zqr7 {x:Nat} (hk:kindI x ≠ 1) (h:flagN x = 16):belowB x = false:=by
 unfold flagN kindI at *;unfold belowB;cases h1:isNaNB x <;> cases h2:isInfB x <;> cases h3:isZeroB x <;> cases h4:negB x <;> simp_all
theorem zqud (x:Nat) (w:World) (hx:W64 x) (h16:flagN x = 16) (hT:Tab64 w):Calls Tryz.prog 194 #[.float .f64 x] w (SplitU (decide (unitsI x < 0)) (unitsI x) w):=by
 by_cases hk:kindI x = 1
 ·rw [zqu7 hx hk]; exact zqxa x 0 0 w hx hk hT
 ·refine (zqng x w hx hk).mono ?_;rintro e w' ⟨rfl,rfl⟩;rw [zqhs hk,zqr7 hk h16];exact ⟨⟨0,0,by omega,by omega,by omega,by omega,fun N _ => by simp,rfl⟩,Drawn.refl _⟩
theorem Cells4.set1 {w:World} {N:Nat} {v:Value} {b m:Bool} {f:Nat} (h:Cells4 w N v b f m) (b':Bool):Cells4 (w.setCell ⟨N,1,none⟩ (.bool b')) N v b' f m:=by
 unfold Cells4 at *;simp [World.setCell,Array.getElem?_modify,h]
theorem Cells4.set0 {w:World} {N:Nat} {v:Value} {b m:Bool} {f:Nat} (h:Cells4 w N v b f m) (v':Value):Cells4 (w.setCell ⟨N,0,none⟩ v') N v' b f m:=by
 unfold Cells4 at *;simp [World.setCell,Array.getElem?_modify,h]
def AloneP (x:Nat) (w:World) (e:Ending) (w':World):Prop:=e = .returned (.pointer (some ⟨w.heap.size,0,none⟩)) ∧ SumAt w' w.heap.size (flagN x) (unitsI x) ∧ Below w.heap.size w w'
theorem zqgf {x:Nat} (hx:W64 x) (h:flagN x ≠ 16):unitsI x = 0:=zqhs fun hk => h (zqmv hx hk)
set_option maxHeartbeats 1000000 in
theorem zqvj (x:Nat) (t:Int) (w:World) (hx:W64 x) (h16:flagN x = 16) (ht:unitsI x = t) (hT:Tab64 w):Calls Tryz.prog 170 #[.float .f64 x] w fun e w' => e = .returned (.pointer (some ⟨w.heap.size,0,none⟩)) ∧ SumAt w' w.heap.size 16 t ∧ Below w.heap.size w w':=by
 have HG:=zqmx x hx;have HF:=zh (fun w => zql5 x w hx)
 have HS:=zh (fun w1 (h:Below w.heap.size w w1) => zqud x w1 hx h16 (hT.call h))
 rw [h16] at HF HG;rw [ht] at HS HG;have HG:=zh HG;have HO:=zh (fun (m:Int) w1 (h0:0 ≤ m) (h1:m ≤ 18446744073709551615) => zqpo m h0 h1 w1)
 have HSh:=zh (fun (w1:World) y a (n:Int) (N:Nat) (hn:n = N) (hN:N ≤ 8192) (hy:WList w1 y a) (la:a.length ≤ 274877906944) => show Calls Tryz.prog 195 #[y,.int .i64 n] w1 (FreshOk w1 (wv a * 2 ^ N) (a.length + N / 32 + 1)) by subst hn; exact zqzd y a w1 hy la N hN)
 clear hx hT h16 ht;go_enter Tryz.func170,Tryz.ntmps170;go_wp2_with fail;refine (zqiu _).mono ?_; rintro e w1 ⟨rfl,rfl⟩;go_wp2_with fail;refine (HF.out _).mono ?_; rintro e w1 ⟨rfl,rfl⟩;go_wp2_with fail;refine (HS.out _ (zqab w _)).mono ?_; rintro e w2 ⟨⟨m,k,m0,m1,k0,k1,hmk,rfl⟩,hd⟩;have hC:Cells4 w2 w.heap.size (.slice none 0 0) false 16 true:=(Cells4.new w _ false 16 true).below hd.below;have hB:Below w.heap.size w w2:=zqaa (zqab w _) hd.below;obtain ⟨N,hN⟩:=Int.eq_ofNat_of_zero_le (show 0 ≤ k + 1074 by omega)
 have HN:=zh (And.intro hN (hmk N hN));have hC2:=hC.set1 (decide (t < 0));have hB2:=hB.setCell (p:=⟨w.heap.size,1,none⟩) (Nat.le_refl _) (.bool (decide (t < 0)));obtain ⟨r0,r1,r2,r3⟩:=hC.reads;obtain ⟨z0,z1,z2,z3⟩:=hC.free;have HC2:=zh hC2;have HB2:=zh hB2;clear hC hB hd hmk hN hC2 hB2 HS HF;go_wp2_with fail;refine (HO.out m _ m0 m1).mono ?_; rintro e w3 ⟨y,a,rfl,g1,g2,g3,g4,g5,g6⟩;have hy:=zqa4 g1 g2 (by omega)
 have HS1:=zh (HSh.out w3 y a (k - -1074) N (by have:=HN.out.1; omega) (by have:=HN.out.1; omega) hy (by omega))
 rw [g4,HN.out.2] at HS1;have HC3:=zh (HC2.out.below g6);have HB3:=zh (HB2.out.trans (g6.mono HB2.out.size));have ha2:a.length ≤ 2:=g5;clear r0 r1 r2 r3 z0 z1 z2 z3 g1 g2 g3 g4 g5 g6 HSh HO HC2 HB2;obtain ⟨p,c,rfl⟩:=hy.shape;clear hy;go_wp2_with fail;refine (HS1.out).mono ?_; rintro e w4 ⟨v,rfl,v',a',e',g1,g2,g3,g4,g5,g6⟩;obtain rfl:v = v':=by simpa using e'
 have hM:Mag w4 v t:=⟨a',zqa4 g1 g2 (by have:=HN.out.1; omega),Typed.own g1,g3,g4⟩
 have hC4:=HC3.out.below g6;have hB4:=HB3.out.trans (g6.mono HB3.out.size);have HE:=zh (show SumAt (w4.setCell ⟨w.heap.size,0,none⟩ v) w.heap.size 16 t from ⟨v,hC4.set0 v,hM.grown hC4 (zqax _ _ _ _),HG.out⟩);have HE2:=zh (hB4.setCell (p:=⟨w.heap.size,0,none⟩) (Nat.le_refl _) v);obtain ⟨r0,r1,r2,r3⟩:=hC4.reads;obtain ⟨z0,z1,z2,z3⟩:=hC4.free;obtain ⟨p2,c2,rfl⟩:=(zqa4 g1 g2 (by have:=HN.out.1; omega)).shape
 clear hM hC4 hB4 g1 g2 g3 g4 g5 g6 e' HS1 HC3 HB3 HG ha2;go_wp2_with fail;go_ret;exact ⟨rfl,HE.out,HE2.out⟩
set_option maxHeartbeats 1000000 in
theorem zqoa (x f:Nat) (w:World) (hx:W64 x) (h16:flagN x = f) (hf:f ≠ 16):Calls Tryz.prog 170 #[.float .f64 x] w fun e w' => e = .returned (.pointer (some ⟨w.heap.size,0,none⟩)) ∧ SumAt w' w.heap.size f 0 ∧ Below w.heap.size w w':=by
 have HG:=zqmx x hx;have HF:=zh (fun w => zql5 x w hx)
 rw [h16] at HF HG;rw [zqgf hx (by omega)] at HG
 have HE:=zh (show SumAt (w.alloc (.cells #[.slice none 0 0,.bool false,.int .u8 f,.bool true] 211)) w.heap.size f 0 from ⟨_,Cells4.new w _ _ _ _,zqm8,HG⟩);have hc:((f:Int) == 16) = false:=by simp; omega
 clear hx h16 hf HG;go_enter Tryz.func170,Tryz.ntmps170;go_wp2_with fail;refine (zqiu _).mono ?_; rintro e w1 ⟨rfl,rfl⟩;go_wp2_with fail;refine (HF.out _).mono ?_; rintro e w1 ⟨rfl,rfl⟩;go_wp2_with fail;go_ret;exact ⟨rfl,HE.out,zqab _ _⟩
theorem zqr6 (x:Nat) (w:World) (hx:W64 x) (hT:Tab64 w):Calls Tryz.prog 170 #[.float .f64 x] w (AloneP x w):=by
 unfold AloneP
 by_cases h16:flagN x = 16
 ·rw [h16]; exact zqvj x _ w hx h16 rfl hT
 ·rw [zqgf hx h16]; exact zqoa x _ w hx rfl h16
set_option maxRecDepth 100000
open Go.RowKit
set_option linter.unusedVariables false
theorem zqi4 {z K:Nat} (h:bitsZ (z:Int) ≤ 32 * K):(z:Int) < 4294967296 ^ K:=by
 rw [zqvf];have h1:=zqdw h;have:((2 ^ (32 * K):Nat):Int) = (2:Int) ^ (32 * K):=by simp
 omega
theorem Mag.list {w:World} {v:Value} {t:Int} (h:Mag w v t) (hf:Fits t):∃ a,WList w v a ∧ Tidy a ∧ wv a = (t.natAbs:Int) ∧ a.length ≤ 70:=by
 obtain ⟨a,h1,h2,h3,h4⟩:=h;exact ⟨a,h1,h3,h4,h3.wlen h1.2.1 (by rw [h4]; exact zqi4 (K:=70) (by unfold Fits at hf; omega))⟩
abbrev SM (N M:Nat) (v u:Value) (x y:Bool) (w:World):Prop:=(w.cell? ⟨N,0,none⟩ = some v ∧ w.cell? ⟨N,1,none⟩ = some (.bool x)) ∧ (w.cell? ⟨M,0,none⟩ = some u ∧ w.cell? ⟨M,1,none⟩ = some (.bool y))
theorem SM.call {N M:Nat} {v u:Value} {x y:Bool} {w w':World} (h:SM N M v u x y w) (hb:Below w.heap.size w w'):SM N M v u x y w' :=
 ⟨⟨cell_later hb h.1.1,cell_later hb h.1.2⟩,⟨cell_later hb h.2.1,cell_later hb h.2.2⟩⟩
def TotP (t:Int) (w:World) (e:Ending) (w':World):Prop:=∃ v,e = .returned (.tuple #[.bool (decide (t < 0)),v]) ∧ Mag w' v t ∧ Below w.heap.size w w'
theorem zqxs {s t:Int} (h:decide (s < 0) = decide (t < 0)):decide (s + t < 0) = decide (s < 0) ∧ ((s + t).natAbs:Int) = (s.natAbs:Int) + t.natAbs:=by
 rw [decide_eq_decide] at h;rw [decide_eq_decide]
 constructor <;> omega
set_option maxHeartbeats 1000000 in
theorem zqo3 (w:World) (N M f g:Nat) (s t:Int) (hs:SumAt w N f s) (ho:SumAt w M g t) (h:decide (s < 0) = decide (t < 0)) :
  Calls Tryz.prog 189 #[.pointer (some ⟨N,0,none⟩),.pointer (some ⟨M,0,none⟩)] w (TotP (s + t) w):=by
 obtain ⟨v,c1,m1,k1⟩:=hs;obtain ⟨u,c2,m2,k2⟩:=ho;obtain ⟨a,l1,-,e1,n1⟩:=m1.list k1.2.2;obtain ⟨b,l2,-,e2,n2⟩:=m2.list k2.2.2;have HA:=zh (fun w1 (h:Below w.heap.size w w1) => zqo7 v u a b w1 (l1.below h) (l2.below h) (by omega) (by omega))
 obtain ⟨q1,q2⟩:=zqxs h;rw [e1,e2,← q2] at HA;unfold TotP;rw [q1];rw [← h] at c2;generalize decide (s < 0) = x at *;have hS:SM N M v u x x w:=⟨⟨c1.reads.1,c1.reads.2.1⟩,⟨c2.reads.1,c2.reads.2.1⟩⟩;obtain ⟨p,c,rfl⟩:=l1.shape;obtain ⟨q,d,rfl⟩:=l2.shape;generalize s + t = r at *;generalize a.length = al at *;generalize b.length = bl at *;have hxx:(x == x) = true:=by simp
 clear c1 c2 m1 m2 k1 k2 l1 l2 e1 e2 q1 q2 h;go_enter Tryz.func189,Tryz.ntmps189;go_upto_region 1 with fail;have hk:SM N M (.slice p al c) (.slice q bl d) x x w.drew:=hS.call (Below.refl _ _).drew;go_region_held3 (fun w' => SM N M (.slice p al c) (.slice q bl d) x x w') (with_reducible exact hk) (fail)
 go_upto_region 2 with fail;have hk:SM N M (.slice p al c) (.slice q bl d) x x w.drew.drew:=hS.call ((Below.refl _ _).drew.drew);have hBw:Below w.heap.size w w.drew.drew:=(Below.refl _ _).drew.drew;go_region_held3 (fun w' => SM N M (.slice p al c) (.slice q bl d) x x w') (with_reducible exact hk)
  ((go_at_call 151; refine (HA.out _ hBw).mono ?_; rintro e w1 ⟨y,cc,rfl,g1,g2,g3,g4,g5,g6⟩; have HM:=zh (show Mag w1 y r from ⟨cc,zqa4 g1 g2 (by omega),Typed.own g1,g3,g4⟩); have hk:=hk.call g6; have HE:=zh (zqaa hBw g6); obtain ⟨p3,c3,rfl⟩:=(zqa4 g1 g2 (by omega)).shape; clear g1 g2 g3 g4 g5 g6 hBw))
 clear hk hS;go_wp2_with fail;go_ret2;exact ⟨_,rfl,HM.out,HE.out⟩
theorem zq0a {a b:Bool} {v:Value} (h:a = b):Ending.returned (.tuple #[.bool a,v]) = .returned (.tuple #[.bool b,v]):=by rw [h]
theorem zqxr {s t:Int} (h:decide (s < 0) ≠ decide (t < 0)) (hle:t.natAbs ≤ s.natAbs):decide (s + t < 0) = (decide (s < 0) && decide ((s + t).natAbs ≠ 0)) ∧ ((s + t).natAbs:Int) = (s.natAbs:Int) - t.natAbs:=by
 rw [Ne,decide_eq_decide] at h
 constructor
 ·rw [← Bool.decide_and,decide_eq_decide]; omega
 ·omega
theorem zqxq {s t:Int} (h:decide (s < 0) ≠ decide (t < 0)) (hlt:s.natAbs < t.natAbs):decide (s + t < 0) = decide (t < 0) ∧ ((s + t).natAbs:Int) = (t.natAbs:Int) - s.natAbs:=by
 rw [Ne,decide_eq_decide] at h;rw [decide_eq_decide]
 constructor <;> omega
theorem zqvd {w:World} {p:Option Addr} {l c:Nat} {a:List Int} {z:Nat} (h:WList w (.slice p l c) a) (ht:Tidy a) (hz:wv a = (z:Int)):l = 0 ↔ z = 0:=by
 have:=zqta (w:=w) (p:=p) (l:=l) (c:=c) (z:=(z:Int)) ⟨a,h,ht,hz⟩;omega
set_option maxHeartbeats 1000000 in
theorem zqo2 (w:World) (N M f g:Nat) (s t:Int) (hs:SumAt w N f s) (ho:SumAt w M g t) (h:decide (s < 0) ≠ decide (t < 0)) (hle:t.natAbs ≤ s.natAbs) :
  Calls Tryz.prog 189 #[.pointer (some ⟨N,0,none⟩),.pointer (some ⟨M,0,none⟩)] w (TotP (s + t) w):=by
 obtain ⟨v,c1,m1,k1⟩:=hs;obtain ⟨u,c2,m2,k2⟩:=ho;obtain ⟨a,l1,-,e1,n1⟩:=m1.list k1.2.2;obtain ⟨b,l2,-,e2,n2⟩:=m2.list k2.2.2;have HA:=zh (fun w1 (h:Below w.heap.size w w1) => zqpu v u a b w1 (l1.below h) (l2.below h) (by omega))
 obtain ⟨q1,q2⟩:=zqxr h hle;rw [e1,e2,← q2] at HA;have hxy:(decide (s < 0) == decide (t < 0)) = false:=by simpa using h
 unfold TotP;rw [q1];generalize decide (s < 0) = x at *;generalize decide (t < 0) = z at *;have hS:SM N M v u x z w:=⟨⟨c1.reads.1,c1.reads.2.1⟩,⟨c2.reads.1,c2.reads.2.1⟩⟩;obtain ⟨p,c,rfl⟩:=l1.shape;obtain ⟨q,d,rfl⟩:=l2.shape;generalize s + t = r at *;generalize a.length = al at *;generalize b.length = bl at *;clear c1 c2 m1 m2 k1 k2 l1 l2 e1 e2 q1 q2 h hle;go_enter Tryz.func189,Tryz.ntmps189;go_upto_region 1 with fail;have hk:SM N M (.slice p al c) (.slice q bl d) x z w.drew:=hS.call (Below.refl _ _).drew;go_region_held3 (fun w' => SM N M (.slice p al c) (.slice q bl d) x z w') (with_reducible exact hk) (fail)
 go_upto_region 3 with fail;have hk:SM N M (.slice p al c) (.slice q bl d) x z w.drew.drew:=hS.call ((Below.refl _ _).drew.drew);have hBw:Below w.heap.size w w.drew.drew:=(Below.refl _ _).drew.drew;go_region_held3 (fun w' => SM N M (.slice p al c) (.slice q bl d) x z w') (with_reducible exact hk)
  ((go_at_call 202; refine (HA.out _ hBw).mono ?_; rintro e w1 ⟨y,rfl,y',cc,e',g1,g2,g3,g4,g5,g6⟩; obtain rfl:y = y':=(by simpa using e'); have HM:=zh (show Mag w1 y r from ⟨cc,zqa4 g1 g2 (by omega),Typed.own g1,g3,g4⟩); have hk:=hk.call g6; have HE:=zh (zqaa hBw g6); have hwl:=zqa4 g1 g2 (by omega); obtain ⟨p3,c3,rfl⟩:=hwl.shape; have HL:=zh (zqvd hwl g3 g4); generalize cc.length = yl at *; clear g1 g2 g3 g4 g5 g6 hBw hwl e'))
 obtain ⟨⟨hr1,hr2⟩,-⟩:=hk;clear hS;cases x
 ·go_wp2_with fail;go_ret2;exact ⟨_,rfl,HM.out,HE.out⟩
 ·go_wp2_with fail
  all_goals
   go_ret2;exact ⟨_,zq0a (by have:=HL.out; rw [Bool.true_and,decide_eq_decide]; omega),HM.out,HE.out⟩
set_option maxHeartbeats 1000000 in
theorem zqo1 (w:World) (N M f g:Nat) (s t:Int) (hs:SumAt w N f s) (ho:SumAt w M g t) (h:decide (s < 0) ≠ decide (t < 0)) (hlt:s.natAbs < t.natAbs) :
  Calls Tryz.prog 189 #[.pointer (some ⟨N,0,none⟩),.pointer (some ⟨M,0,none⟩)] w (TotP (s + t) w):=by
 obtain ⟨v,c1,m1,k1⟩:=hs;obtain ⟨u,c2,m2,k2⟩:=ho;obtain ⟨a,l1,-,e1,n1⟩:=m1.list k1.2.2;obtain ⟨b,l2,-,e2,n2⟩:=m2.list k2.2.2;have HA0:=zh (fun w1 (h:Below w.heap.size w w1) => zqxo v u a b w1 (l1.below h) (l2.below h) (by omega))
 have HA:=zh (fun w1 (h:Below w.heap.size w w1) => zqpu u v b a w1 (l2.below h) (l1.below h) (by omega))
 obtain ⟨q1,q2⟩:=zqxq h hlt;rw [e1,e2,← q2] at HA;have hxy:(decide (s < 0) == decide (t < 0)) = false:=by simpa using h
 unfold TotP;rw [q1];generalize decide (s < 0) = x at *;generalize decide (t < 0) = z at *;have hS:SM N M v u x z w:=⟨⟨c1.reads.1,c1.reads.2.1⟩,⟨c2.reads.1,c2.reads.2.1⟩⟩;obtain ⟨p,c,rfl⟩:=l1.shape;obtain ⟨q,d,rfl⟩:=l2.shape;generalize s + t = r at *;generalize a.length = al at *;generalize b.length = bl at *;clear c1 c2 m1 m2 k1 k2 l1 l2 e1 e2 q1 q2 h hlt;go_enter Tryz.func189,Tryz.ntmps189;go_upto_region 1 with fail;have hk:SM N M (.slice p al c) (.slice q bl d) x z w.drew:=hS.call (Below.refl _ _).drew;go_region_held3 (fun w' => SM N M (.slice p al c) (.slice q bl d) x z w') (with_reducible exact hk) (fail)
 go_upto_region 3 with fail;have hk:SM N M (.slice p al c) (.slice q bl d) x z w.drew.drew:=hS.call ((Below.refl _ _).drew.drew);have hBw:Below w.heap.size w w.drew.drew:=(Below.refl _ _).drew.drew;go_region_held3 (fun w' => SM N M (.slice p al c) (.slice q bl d) x z w') (with_reducible exact hk)
  ((go_at_call 202; refine (HA0.out _ hBw).mono ?_; rintro e w1 ⟨rfl,g6⟩; have hk:=hk.call g6; have HE:=zh (zqaa hBw g6); clear g6 hBw))
 clear hS HA0;go_upto_region 6 with fail;have hk:SM N M (.slice p al c) (.slice q bl d) x z w1.drew:=hk.call (Below.refl _ _).drew;have hBw:Below w.heap.size w w1.drew:=HE.out.drew;go_region_held3 (fun w' => SM N M (.slice p al c) (.slice q bl d) x z w') (with_reducible exact hk)
  ((go_at_call 202; refine (HA.out _ hBw).mono ?_; rintro e w2 ⟨y,rfl,y',cc,e',g1,g2,g3,g4,g5,g6⟩; obtain rfl:y = y':=(by simpa using e'); have HM:=zh (show Mag w2 y r from ⟨cc,zqa4 g1 g2 (by omega),Typed.own g1,g3,g4⟩); have hk:=hk.call g6; have HE:=zh (zqaa hBw g6); have hwl:=zqa4 g1 g2 (by omega); obtain ⟨p3,c3,rfl⟩:=hwl.shape; generalize cc.length = yl at *; clear g1 g2 g3 g4 g5 g6 hBw hwl e'))
 obtain ⟨-,⟨hr1,hr2⟩⟩:=hk;go_wp2_with fail;go_ret2;exact ⟨_,rfl,HM.out,HE.out⟩
theorem zqj2 (w:World) (N M f g:Nat) (s t:Int) (hs:SumAt w N f s) (ho:SumAt w M g t) :
  Calls Tryz.prog 189 #[.pointer (some ⟨N,0,none⟩),.pointer (some ⟨M,0,none⟩)] w (TotP (s + t) w):=by
 by_cases h:decide (s < 0) = decide (t < 0)
 ·exact zqo3 w N M f g s t hs ho h
 ·by_cases hle:t.natAbs ≤ s.natAbs
  ·exact zqo2 w N M f g s t hs ho h hle
  ·exact zqo1 w N M f g s t hs ho h (by omega)
def JoinP (N f:Nat) (t:Int) (w:World) (e:Ending) (w':World):Prop:=e = .returned (.bool true) ∧ SumAt w' N f t ∧ w.grownBy w' (some N)
def OverP (w:World) (e:Ending) (w':World):Prop:=e = .returned (.bool false) ∧ Below w.heap.size w w'
set_option maxHeartbeats 1000000 in
theorem zqrc (w:World) (N M f g:Nat) (s t:Int) (hs:SumAt w N f s) (ho:SumAt w M g t) (hr:¬ Fits (s + t)) :
  Calls Tryz.prog 153 #[.pointer (some ⟨N,0,none⟩),.pointer (some ⟨M,0,none⟩)] w (OverP w):=by
 have HT:=zh (zqj2 w N M f g s t hs ho);have H1:=zh (show Calls Tryz.prog 171 #[.pointer (some ⟨N,0,none⟩)] w fun e w' => e = .returned (.bool true) ∧ w = w' by obtain ⟨v,h,-⟩:=hs; exact zqb6 w N _ _ _ _ h)
 have H2:=zh (show Calls Tryz.prog 171 #[.pointer (some ⟨M,0,none⟩)] w fun e w' => e = .returned (.bool true) ∧ w = w' by obtain ⟨v,h,-⟩:=ho; exact zqb6 w M _ _ _ _ h)
 unfold Fits at hr;generalize s + t = r at *;have HB:=zh (fun w1 v a (h:WList w1 v a) (hz:wv a = (r.natAbs:Int)) => show Calls Tryz.prog 190 #[v] w1 fun e w' => e = .returned (.int .i64 (bitsZ (r.natAbs:Int))) ∧ w1 = w' by rw [← hz]; exact zqml v a w1 h)
 generalize bitsZ (r.natAbs:Int) = L at *;have hL:(2240:Int) < (L:Int):=by omega
 clear hs ho hr;unfold OverP;go_enter Tryz.func153,Tryz.ntmps153;go_wp2_with fail;refine (H1.out).mono ?_; rintro e w1 ⟨rfl,rfl⟩;go_wp2_with fail;refine (H2.out).mono ?_; rintro e w1 ⟨rfl,rfl⟩;go_wp2_with fail;refine (HT.out).mono ?_; rintro e w1 ⟨v,rfl,⟨a,ha,-,-,hz⟩,hb⟩;have HB1:=zh (HB.out w1 v a ha hz);have HE:=zh hb;obtain ⟨p,c,rfl⟩:=ha.shape;clear ha hz hb HB HT H1 H2;go_wp2_with fail;refine (HB1.out).mono ?_; rintro e w2 ⟨rfl,rfl⟩;go_wp2_with fail;go_ret;exact ⟨rfl,HE.out⟩
theorem zqxl {w:World} {N f g:Nat} {v v':Value} {x b':Bool} {t:Int} (h:Cells4 w N v x f true) (hm:Mag w v' t) (hb:b' = decide (t < 0)) (hg:Good g t) :
  SumAt (((w.setCell ⟨N,1,none⟩ (.bool b')).setCell ⟨N,0,none⟩ v').setCell ⟨N,2,none⟩ (.int .u8 g)) N g t ∧ w.grownBy (((w.setCell ⟨N,1,none⟩ (.bool b')).setCell ⟨N,0,none⟩ v').setCell ⟨N,2,none⟩ (.int .u8 g)) (some N):=by
 have h3:=zqa0 (zqa0 (zqax w N 1 (.bool b')) (zqax _ N 0 v')) (zqax _ N 2 (.int .u8 g));subst hb;exact ⟨⟨v',h.set v' _ g,hm.grown h h3,hg⟩,h3⟩
set_option maxRecDepth 100000
open Go.RowKit
set_option linter.unusedVariables false
theorem zqyv {w:World} {N M f g:Nat} {v u:Value} {x y:Bool} (h1:Cells4 w N v x f true) (h2:Cells4 w M u y g true) (b':Bool) (v':Value) :
  ((w.setCell ⟨N,1,none⟩ (.bool b')).setCell ⟨N,0,none⟩ v').cell? ⟨N,2,none⟩ = some (.int .u8 f) ∧ ((w.setCell ⟨N,1,none⟩ (.bool b')).setCell ⟨N,0,none⟩ v').cell? ⟨M,2,none⟩ = some (.int .u8 g) ∧ ((w.setCell ⟨N,1,none⟩ (.bool b')).setCell ⟨N,0,none⟩ v').frozen? ⟨N,2,none⟩ = false:=by
 have k:∀ j:Nat,((w.setCell ⟨N,1,none⟩ (.bool b')).setCell ⟨N,0,none⟩ v').cell? ⟨j,2,none⟩ = w.cell? ⟨j,2,none⟩:=fun j => by
  exact (World.cell?_setCell_other _ ⟨N,0,none⟩ ⟨j,2,none⟩ _ (by intro e; cases e)).trans (World.cell?_setCell_other _ ⟨N,1,none⟩ ⟨j,2,none⟩ _ (by intro e; cases e))
 exact ⟨(k N).trans h1.reads.2.2.1,(k M).trans h2.reads.2.2.1,by simp [go_sem,h1.free.2.2.1]⟩
set_option maxHeartbeats 1000000 in
theorem zqlg (w:World) (N M f g:Nat) (s t:Int) (hs:SumAt w N f s) (ho:SumAt w M g t) (hr:Fits (s + t)) :
  Calls Tryz.prog 153 #[.pointer (some ⟨N,0,none⟩),.pointer (some ⟨M,0,none⟩)] w (JoinP N (f ||| g) (s + t) w):=by
 have HT:=zh (zqj2 w N M f g s t hs ho);have H1:=zh (show Calls Tryz.prog 171 #[.pointer (some ⟨N,0,none⟩)] w fun e w' => e = .returned (.bool true) ∧ w = w' by obtain ⟨v,h,-⟩:=hs; exact zqb6 w N _ _ _ _ h)
 have H2:=zh (show Calls Tryz.prog 171 #[.pointer (some ⟨M,0,none⟩)] w fun e w' => e = .returned (.bool true) ∧ w = w' by obtain ⟨v,h,-⟩:=ho; exact zqb6 w M _ _ _ _ h)
 have HG:=zh (hs.good.join ho.good hr);have ho8:=zqld f g (by have:=hs.good.1; omega) (by have:=ho.good.1; omega)
 unfold Fits at hr;generalize s + t = r at *;have HB:=zh (fun w1 v a (h:WList w1 v a) (hz:wv a = (r.natAbs:Int)) => show Calls Tryz.prog 190 #[v] w1 fun e w' => e = .returned (.int .i64 (bitsZ (r.natAbs:Int))) ∧ w1 = w' by rw [← hz]; exact zqml v a w1 h)
 generalize bitsZ (r.natAbs:Int) = L at *;have hL:(L:Int) ≤ 2240:=by omega
 obtain ⟨sv,c1,-,-⟩:=hs;obtain ⟨ov,c2,-,-⟩:=ho;have HC:=zh (And.intro c1 c2);have HO:=zh ho8;clear c1 c2 hr ho8;unfold JoinP;go_enter Tryz.func153,Tryz.ntmps153;go_wp2_with fail;refine (H1.out).mono ?_; rintro e w1 ⟨rfl,rfl⟩;go_wp2_with fail;refine (H2.out).mono ?_; rintro e w1 ⟨rfl,rfl⟩;go_wp2_with fail;refine (HT.out).mono ?_; rintro e w1 ⟨v,rfl,hm,hb⟩;have HM:=zh hm;obtain ⟨a,ha,-,-,hz⟩:=hm;have HB1:=zh (HB.out w1 v a ha hz);have hc1:=HC.out.1.below hb;have hc2:=HC.out.2.below hb;have HE:=zh (And.intro (show w.grownBy w1 (some N) from zqhl hb _) hc1);obtain ⟨p,c,rfl⟩:=ha.shape;generalize a.length = al at *;clear ha hz hb HB HT H1 H2 HC;go_wp2_with fail;refine (HB1.out).mono ?_; rintro e w2 ⟨rfl,rfl⟩;obtain ⟨r0,r1,r2,r3⟩:=hc1.reads;obtain ⟨z0,z1,z2,z3⟩:=hc1.free;obtain ⟨s0,s1,s2,s3⟩:=hc2.reads;have hS:=zqxl (g:=f ||| g) hc1 HM.out rfl HG.out
 have HS:=zh hS;have hw:=zqyv hc1 hc2 (decide (r < 0)) (.slice p al c);have HW:=zh hw;clear hS hw s0 s1 s2 s3 hc1 hc2 HB1;go_upto_region 7 with fail;clear r0 r1 r2 r3 z0 z1 z2 z3;generalize (w1.setCell ⟨N,1,none⟩ (.bool (decide (r < 0)))).setCell ⟨N,0,none⟩ (.slice p al c) = W at *;obtain ⟨x1,x2,x3⟩:=HW.out;have hor:=HO.out;clear HW HM;go_region;go_wp2_with fail;go_ret;exact ⟨rfl,HS.out.1.below (Below.refl _ _).drew,zqa0 HE.out.1 (zqqr HS.out.2)⟩
set_option maxHeartbeats 1000000 in
theorem zqw5 (w:World) (N f x:Nat) (s:Int) (hs:SumAt w N f s) (hx:W64 x) (hT:Tab64 w) (hr:Fits (s + unitsI x)) :
  Calls Tryz.prog 146 #[.pointer (some ⟨N,0,none⟩),.float .f64 x] w (JoinP N (f ||| flagN x) (s + unitsI x) w):=by
 have HA:=zh (zqr6 x w hx hT);have HJ:=zh (fun w1 (h:Below w.heap.size w w1) (k:SumAt w1 w.heap.size (flagN x) (unitsI x)) => zqlg w1 N w.heap.size f (flagN x) s (unitsI x) (hs.below h) k hr)
 unfold JoinP;clear hs hx hT hr;go_enter Tryz.func146,Tryz.ntmps146;go_wp2_with fail;refine (HA.out).mono ?_; rintro e w1 ⟨rfl,hm,hb⟩;have HJ1:=zh (HJ.out w1 hb hm);have HB:=zh hb;clear hb hm HA HJ;go_wp2_with fail;refine (HJ1.out).mono ?_; rintro e w2 ⟨rfl,h1,h2⟩;have HE:=zh (And.intro h1 (zqa0 (zqhl HB.out _) h2));clear h1 h2 HJ1 HB;go_wp2_with fail;go_ret;exact ⟨rfl,HE.out.1,HE.out.2⟩
end Go.Proofs.YtmnbljijnbhghaaGreatDoor
