/- Contracts that the law leans on: Facc Faci Bufq Facm Agob Agoc. -/
import Derived.BigQuiet
import Derived.Deep.QuietTactic
import Derived.Deep.RegionHeld3
import Derived.Lib.ConvBytes
import Derived.Lib.SmallJoins
import Derived.Laws.CopyRow
import Derived.Laws.IdiomCopy
import Derived.Laws.OwnMore
import Derived.Laws.MakeOwn
import Derived.Test.YtpgchfihedcdkaaGreatDoorGt02
import Derived.Test.YtpgchfihedcdkaaGreatDoorGt08
import Derived.Test.YtpgchfihedcdkaaGreatDoorGt21
import Derived.Test.YtpgchfihedcdkaaGreatDoorGt22
import Derived.Test.YtpgchfihedcdkaaGreatDoorGt24
import Derived.Test.YtpgchfihedcdkaaGreatDoorGt25
import Derived.Test.YtpgchfihedcdkaaGreatDoorGt26
namespace Go.Proofs.YtpgchfihedcdkaaGreatDoor
set_option maxRecDepth 100000
open Go.RowKit
set_option linter.unusedVariables false
theorem zqoe {b:List Int} (hb:Bt b) (h:(getI b).2.2 = 0):b.take (getI b).2.1 = encI (getI b).1 ∧ -9223372036854775808 ≤ (getI b).1 ∧ (getI b).1 ≤ 9223372036854775807:=by
 cases b with
 | nil => simp [getI] at h
 | cons c t =>
  rw [zqcf] at h ⊢
  split at h
  ·simp at h
  ·rename_i h1
   split at h
   ·simp at h
   ·rename_i h2;rw [if_neg h1,if_neg h2];have hc:=hb.head;simp only;have h8:sizeI c ≤ 8:=by
     by_cases q:8 < sizeI c
     ·exact absurd (.inl q) h1
     ·omega
    have hcn:(c < 9 ∧ c = 8 - (sizeI c:Int)) ∨ (9 ≤ c ∧ c = 9 + (sizeI c:Int)):=by
     unfold sizeI
     by_cases q:c < 9
     ·rw [if_pos q]; left; omega
     ·rw [if_neg q]; right; omega
    generalize sizeI c = n at *;have hl:n ≤ t.length:=by omega
    have hr:=zqam hb.tail (f:=0) (by decide) (by decide) n
    have hp:((256 ^ n:Nat):Int) = 256 ^ n:=by rw [Int.natCast_pow]; rfl
    obtain ⟨X,hX⟩:∃ X:Nat,fillN t 0 n = X:=⟨(fillN t 0 n).toNat,by omega⟩
    have hXl:X < 256 ^ n:=by rw [hX,← hp] at hr; omega
    have hbf:=zqe9 hb.tail n hl;have hle:256 ^ n ≤ 256 ^ 8:=Nat.pow_le_pow_right (by decide) h8
    have h88:(256:Nat) ^ 8 = 18446744073709551616:=by decide
    rw [hX] at hbf;rw [hX,← hp];simp only [Int.toNat_natCast] at hbf;have htop:n = 0 ∨ ∃ k d u,n = k + 1 ∧ t = d :: u ∧ X = d.toNat * 256 ^ k + (fillN u 0 k).toNat ∧ (fillN u 0 k).toNat < 256 ^ k ∧ 0 ≤ d ∧ d ≤ 255:=by
     by_cases h0:n = 0
     ·exact .inl h0
     ·right;obtain ⟨k,rfl⟩:∃ k,n = k + 1:=⟨n - 1,by omega⟩
      cases t with
      | nil => simp at hl
      | cons d u =>
       have hd:=hb.tail.head;have hr2:=zqam hb.tail.tail (f:=0) (by decide) (by decide) k
       have hpk:((256 ^ k:Nat):Int) = 256 ^ k:=by rw [Int.natCast_pow]; rfl
       rw [zqb5] at hX;simp only [List.tail_cons,List.getD_cons_zero] at hX hr2;obtain ⟨F,hF⟩:∃ F:Nat,fillN u 0 k = F:=⟨(fillN u 0 k).toNat,by omega⟩
       obtain ⟨e,rfl⟩:∃ e:Nat,d = e:=⟨d.toNat,by omega⟩
       refine ⟨k,_,_,rfl,rfl,?_,?_,hd.1,hd.2⟩
       ·rw [hF,← hpk,← Int.natCast_mul,← Int.natCast_add] at hX;rw [hF];simp only [Int.toNat_natCast];exact (Int.ofNat.inj hX).symm
       ·rw [hF,← hpk] at hr2;rw [hF,Int.toNat_natCast];omega
    rcases hcn with ⟨hc9,hce⟩ | ⟨hc9,hce⟩
    ·rw [if_pos hc9];have hx0:¬ 0 ≤ (X:Int) - ((256 ^ n:Nat):Int):=by omega
     have hy:(-1 - ((X:Int) - ((256 ^ n:Nat):Int))).toNat = 256 ^ n - 1 - X:=by omega
     have hlow:IsLen (256 ^ n - 1 - X) n ∧ 256 ^ n - 1 - X < 9223372036854775808:=by
      rcases htop with h0 | ⟨k,d,u,rfl,rfl,e1,e2,d0,d1⟩
      ·subst h0; refine ⟨⟨by omega,.inl rfl⟩,by omega⟩
      ·have hd:¬ (d = 255 ∨ (k + 1 = 8 ∧ d < 128)):=by
        intro q;refine h1 (.inr ⟨by omega,by simp,?_⟩)
        rw [if_pos hc9];simpa using q
       have hpk:=zqe1 k;have hpw:256 ^ (k + 1) = 256 ^ k * 256:=Nat.pow_succ ..;have hm:d.toNat * 256 ^ k ≤ 254 * 256 ^ k:=Nat.mul_le_mul_right _ (by omega)
       refine ⟨⟨by omega,.inr ?_⟩,?_⟩
       ·simp only [Nat.add_sub_cancel]; omega
       ·by_cases k8:k + 1 = 8
        ·obtain rfl:k = 7:=by omega
         have hm2:128 * 256 ^ 7 ≤ d.toNat * 256 ^ 7:=Nat.mul_le_mul_right _ (by omega)
         omega
        ·have:256 ^ (k + 1) ≤ 256 ^ 7:=Nat.pow_le_pow_right (by decide) (by omega)
         omega
     refine ⟨?_,by omega,by omega⟩
     unfold encI;rw [if_neg hx0,hy,(zqeb _ (by omega)).unique hlow.1,List.take_succ_cons,← hbf,← hce]
     congr 1
     have hdv:∃ q,18446744073709551616 = 256 ^ n * q:=⟨256 ^ (8 - n),by rw [← Nat.pow_add,show n + (8 - n) = 8 by omega]⟩
     obtain ⟨q,hq⟩:=hdv;have hq1:1 ≤ q:=by
      by_cases q0:q = 0
      ·subst q0; simp at hq
      ·omega
     have hmod:(((X:Int) - ((256 ^ n:Nat):Int)) % 18446744073709551616).toNat = X + 256 ^ n * (q - 1):=by
      have e:256 ^ n * (q - 1) = 18446744073709551616 - 256 ^ n:=by rw [Nat.mul_sub,← hq,Nat.mul_one]
      rw [e];omega
     rw [hmod,← zqje (X + 256 ^ n * (q - 1)) n n (Nat.le_refl _),Nat.add_mul_mod_self_left,Nat.mod_eq_of_lt hXl]
    ·rw [if_neg (by omega)]
     have hlow:IsLen X n ∧ X < 9223372036854775808:=by
      rcases htop with h0 | ⟨k,d,u,rfl,rfl,e1,e2,d0,d1⟩
      ·subst h0; refine ⟨⟨hXl,.inl rfl⟩,by omega⟩
      ·have hd:¬ (d = 0 ∨ (k + 1 = 8 ∧ 127 < d)):=by
        intro q;refine h1 (.inr ⟨by omega,by simp,?_⟩)
        rw [if_neg (by omega)]
        simpa using q
       have hpk:=zqe1 k;have hm:1 * 256 ^ k ≤ d.toNat * 256 ^ k:=Nat.mul_le_mul_right _ (by omega)
       refine ⟨⟨hXl,.inr ?_⟩,?_⟩
       ·simp only [Nat.add_sub_cancel]; omega
       ·by_cases k8:k + 1 = 8
        ·obtain rfl:k = 7:=by omega
         have hm2:d.toNat * 256 ^ 7 ≤ 127 * 256 ^ 7:=Nat.mul_le_mul_right _ (by omega)
         omega
        ·have:256 ^ (k + 1) ≤ 256 ^ 7:=Nat.pow_le_pow_right (by decide) (by omega)
         omega
     refine ⟨?_,by omega,by omega⟩
     unfold encI;rw [if_pos (by omega),Int.toNat_natCast,(zqeb _ (by omega)).unique hlow.1,List.take_succ_cons,hbf,← hce]
theorem zqyn {b:List Int} (hb:Bt b) (h:(getF b).2 = 0):b.take 8 = encF (getF b).1.toNat ∧ Keyed (getF b).1:=by
 unfold getF at h ⊢
 by_cases h8:8 ≤ b.length
 ·rw [if_pos h8] at h ⊢
  by_cases hk:Keyed (fillN b 0 8)
  ·rw [if_pos hk];exact ⟨(zqe9 hb 8 h8).symm,hk⟩
  ·rw [if_neg hk] at h; simp at h
 ·rw [if_neg h8] at h
  split at h <;> simp at h
def listK {α:Type} (rd:Nat → Nat × Nat → α × Nat × Nat) (s:Nat × Nat):Nat → List α × Nat × Nat
 | 0 => ([],s)
 | k + 1 => ((listK rd s k).1 ++ [(rd k (listK rd s k).2).1],(rd k (listK rd s k).2).2)
theorem zqbc {α:Type} {rd:Nat → Nat × Nat → α × Nat × Nat} {P:Nat × Nat → Prop} (h:∀ k s,P s → P (rd k s).2) {s:Nat × Nat} (hs:P s):∀ k,P (listK rd s k).2 ∧ (listK rd s k).1.length = k
 | 0 => ⟨hs,rfl⟩
 | k + 1 => ⟨h _ _ (zqbc h hs k).1,by simp [listK,(zqbc h hs k).2]⟩
theorem zqfe {α:Type} {rd:Nat → Nat × Nat → α × Nat × Nat} {Q:Nat → α → Prop} (h:∀ k s,Q k (rd k s).1) (s:Nat × Nat):∀ k j x,(listK rd s k).1[j]? = some x → Q j x
 | 0,j,x,hx => by simp [listK] at hx
 | k + 1,j,x,hx => by
  have hl:=(zqbc (P:=fun _ => True) (fun _ _ _ => True.intro) (rd:=rd) (s:=s) True.intro k).2
  rw [listK] at hx;simp only at hx
  by_cases hj:j < k
  ·rw [List.getElem?_append_left (by omega)] at hx
   exact zqfe h s k j x hx
  ·rw [List.getElem?_append_right (by omega),hl] at hx
   by_cases hjk:j = k
   ·subst hjk;simp only [Nat.sub_self,List.getElem?_cons_zero,Option.some.injEq] at hx;exact hx ▸ h _ _
   ·obtain ⟨m,hm⟩:∃ m,j - k = m + 1:=⟨j - k - 1,by omega⟩
    rw [hm] at hx;simp at hx
def InvR {α:Type} (b:List Int) (rd:Nat × Nat → α × Nat × Nat) (enc:α → List Int):Prop:=∀ s,(rd s).2.2 = 0 → s.2 = 0 ∧ ∀ X,b.take s.1 = X → b.take (rd s).2.1 = X ++ enc (rd s).1
theorem zqff {α:Type} {b:List Int} {rd:Nat → Nat × Nat → α × Nat × Nat} {enc:α → List Int} (h:∀ k,InvR b (rd k) enc):∀ k,InvR b (fun s => listK rd s k) (fun l => l.flatMap enc)
 | 0 => fun s h0 => ⟨h0,fun X hX => by simp [listK,hX]⟩
 | k + 1 => fun s h0 => by
  have h1:=h k (listK rd s k).2 h0;have h2:=zqff h k s h1.1;refine ⟨h2.1,fun X hX => ?_⟩
  have h3:=h1.2 _ (h2.2 X hX);show b.take (rd k (listK rd s k).2).2.1 = X ++ ((listK rd s k).1 ++ [(rd k (listK rd s k).2).1]).flatMap enc
  rw [h3,List.flatMap_append];simp [List.append_assoc]
def stI (b:List Int) (s:Nat × Nat):Int × Nat × Nat :=
 if s.2 = 0 then ((getI (b.drop s.1)).1,if (getI (b.drop s.1)).2.2 = 0 then s.1 + (getI (b.drop s.1)).2.1 else s.1,(getI (b.drop s.1)).2.2) else (0,s)
def stF (b:List Int) (s:Nat × Nat):Nat × Nat × Nat :=
 if s.2 = 0 then (if (getF (b.drop s.1)).2 = 0 then fromN (getF (b.drop s.1)).1 else 0,if (getF (b.drop s.1)).2 = 0 then s.1 + 8 else s.1,(getF (b.drop s.1)).2) else (0,s)
theorem zqb3 {b:List Int} {s:Nat × Nat} (h:OkSt b s):OkSt b (stI b s).2:=by
 unfold stI
 split
 ·have:=zqgv (b:=b.drop s.1);refine ⟨?_,this.2⟩;simp only
  split
  ·rename_i h0;have h1:=this.1 h0;have h2:=h.1;rw [List.length_drop] at h1;omega
  ·exact h.1
 ·exact h
theorem zqk0 {b:List Int} {s:Nat × Nat} (h:OkSt b s):OkSt b (stF b s).2:=by
 unfold stF
 split
 ·have:=zqod (b:=b.drop s.1);refine ⟨?_,this.2⟩;simp only
  split
  ·rename_i h0;have h1:=this.1 h0;have h2:=h.1;rw [List.length_drop] at h1;omega
  ·exact h.1
 ·exact h
theorem zqgi {b:List Int} (hb:Bt b) (s:Nat × Nat):-9223372036854775808 ≤ (stI b s).1 ∧ (stI b s).1 ≤ 9223372036854775807:=by
 unfold stI
 split
 ·simp only
  by_cases h0:(getI (b.drop s.1)).2.2 = 0
  ·exact (zqoe (hb.drop _) h0).2
  ·rw [(zqfb h0).1]; omega
 ·simp only; omega
theorem zqgh {b:List Int} (hb:Bt b):InvR b (stI b) encI:=fun s h => by
 unfold stI at h ⊢
 split at h
 ·rename_i h0;rw [if_pos h0];refine ⟨h0,fun X hX => ?_⟩
  simp only at h ⊢;rw [if_pos h];exact zqft hX (zqoe (hb.drop _) h).1
 ·rename_i h0; exact absurd h h0
def eN (x:Nat):List Int:=encF (keyI x).toNat
theorem zqq6 {b:List Int} (hb:Bt b):InvR b (stF b) eN:=fun s h => by
 unfold stF at h ⊢
 split at h
 ·rename_i h0;rw [if_pos h0];refine ⟨h0,fun X hX => ?_⟩
  simp only at h ⊢;rw [if_pos h,if_pos h];obtain ⟨h1,h2⟩:=zqyn (hb.drop s.1) h;unfold eN;rw [(zqbw h2).2.1];exact zqft hX h1
 ·rename_i h0; exact absurd h h0
set_option maxRecDepth 100000
open Go.RowKit
set_option linter.unusedVariables false
structure Fa where
 cs:List Int
 is:List Int
 ns:List Nat
def eU (v:Int):List Int:=encU v.toNat
structure FitFa (ms:List Int) (ni nn:Nat) (f:Fa):Prop where
 lc:f.cs.length = ms.length
 li:f.is.length = ni
 ln:f.ns.length = nn
 c:∀ k x,f.cs[k]? = some x → 0 ≤ x ∧ x ≤ ms.getD k 0 ∧ x ≤ 4096
 i:∀ x ∈ f.is,-9223372036854775808 ≤ x ∧ x ≤ 9223372036854775807
 n:∀ x ∈ f.ns,Keyed (keyI x)
set_option maxRecDepth 100000
open Go.RowKit
set_option linter.unusedVariables false
def codAt (ds:List (ByteArray × Int)) (cs:List Int) (k:Nat):Bool:=decide (0 ≤ cs.getD k 0) && decide (cs.getD k 0 < dz ds k)
def codB (ds:List (ByteArray × Int)) (cs:List Int):Bool:=(List.range cs.length).all (codAt ds cs)
theorem zq07 {ds:List (ByteArray × Int)} {cs:List Int} {k:Nat} (hk:k < cs.length) (h:codAt ds cs k = false):codB ds cs = false:=List.all_eq_false.2 ⟨k,by simpa using hk,by simp [h]⟩
theorem zqx0 {ds:List (ByteArray × Int)} {cs:List Int} (h:∀ j,j < cs.length → codAt ds cs j = true):codB ds cs = true:=List.all_eq_true.2 fun x hx => h x (by simpa using hx)
theorem zq08 {ds:List (ByteArray × Int)} {cs:List Int} (h:codB ds cs = true) {k:Nat} (hk:k < cs.length):0 ≤ cs.getD k 0 ∧ cs.getD k 0 < dz ds k:=by
 have:=List.all_eq_true.1 h k (by simpa using hk)
 simpa [codAt] using this
def fitsL (S:Sc) (f:Fa):Nat:=if f.cs.length ≠ S.ds.length ∨ f.is.length ≠ S.is.length ∨ f.ns.length ≠ S.ns.length then 3 else if codB S.ds f.cs = true then 0 else 2
theorem zqqq {S:Sc} {f:Fa} (h:fitsL S f = 0):f.cs.length = S.ds.length ∧ f.is.length = S.is.length ∧ f.ns.length = S.ns.length ∧ codB S.ds f.cs = true:=by
 unfold fitsL at h
 split at h
 ·simp at h
 ·rename_i q
  split at h
  ·rename_i q2;refine ⟨?_,?_,?_,q2⟩ <;> omega
  ·simp at h
def mostsS (S:Sc):List Int:=S.ds.map fun d => d.2 - 1
theorem zqvo {S:Sc} {k:Nat} (hk:k < S.ds.length):(mostsS S).getD k 0 = dz S.ds k - 1:=by
 rw [zqj3 hk];simp [mostsS,List.getD,hk]
theorem zqvp (S:Sc):(mostsS S).length = S.ds.length:=by simp [mostsS]
theorem zqt9 {S:Sc} (h:checkL S = 0) {k:Nat} (hk:k < S.ds.length):1 ≤ dz S.ds k ∧ dz S.ds k ≤ 4096:=by
 have:=zqdc (zqdh h).2 hk;exact ⟨this.1,this.2.1⟩
theorem zqpy {S:Sc} {f:Fa} (hc:checkL S = 0) (hi:∀ x ∈ f.is,-9223372036854775808 ≤ x ∧ x ≤ 9223372036854775807) (hn:∀ x ∈ f.ns,W64 x) (h:fitsL S f = 0):FitFa (mostsS S) S.is.length S.ns.length f:=by
 obtain ⟨h1,h2,h3,h4⟩:=zqqq h;refine ⟨by rw [zqvp]; exact h1,h2,h3,fun k x hx => ?_,hi,fun x hx => zqvg (hn x hx)⟩
 have hk:=(List.getElem?_eq_some_iff.1 hx).1;have hg:=zq08 h4 hk;have e:f.cs.getD k 0 = x:=by simp [List.getD,hx]
 rw [e] at hg;have hs:=zqt9 hc (k:=k) (by omega)
 rw [zqvo (by omega)]
 omega
set_option maxRecDepth 100000
open Go.RowKit Go.ChangeShapes Go.WideShapes Go.Deep
set_option linter.unusedVariables false
def Fls (w:World) (v:Value) (xs:List Nat):Prop :=
 ∃ a cap,v = .slice a xs.length cap ∧ xs.length ≤ cap ∧ (xs = [] ∨ ∃ b off,a = some ⟨b,off,none⟩ ∧ b < w.heap.size ∧ ∀ i,i < xs.length → w.cell? ⟨b,off + i,none⟩ = some (.float .f64 (xs.getD i 0)))
theorem Fls.below {w w':World} {v:Value} {xs:List Nat} (h:Fls w v xs) (hb:Below w.heap.size w w'):Fls w' v xs:=by
 obtain ⟨a,cap,rfl,h1,h3⟩:=h;refine ⟨a,cap,rfl,h1,?_⟩;rcases h3 with h3 | ⟨b,off,rfl,hlt,hc⟩
 ·exact .inl h3
 ·exact .inr ⟨b,off,rfl,Nat.lt_of_lt_of_le hlt hb.size,fun i hi => (hb.cell (p:=⟨b,_,none⟩) hlt).trans (hc i hi)⟩
structure Fact3 (w:World) (C I N:Value) (f:Fa):Prop where
 c:Ints .i64 w C f.cs
 i:Ints .i64 w I f.is
 n:Fls w N f.ns
theorem Fact3.below {w w':World} {C I N:Value} {f:Fa} (h:Fact3 w C I N f) (hb:Below w.heap.size w w'):Fact3 w' C I N f:=⟨h.c.below hb,h.i.below hb,h.n.below hb⟩
theorem Fact3.slices {w:World} {C I N:Value} {f:Fa} (h:Fact3 w C I N f):(∃ a c,C = .slice a f.cs.length c) ∧ (∃ a c,I = .slice a f.is.length c) ∧ ∃ a c,N = .slice a f.ns.length c:=by
 obtain ⟨⟨a,c,h1,-⟩,⟨a2,c2,h2,-⟩,a3,c3,h3,-⟩:=h;exact ⟨⟨a,c,h1⟩,⟨a2,c2,h2⟩,a3,c3,h3⟩
structure FaWf (f:Fa):Prop where
 c:∀ x ∈ f.cs,-9223372036854775808 ≤ x ∧ x ≤ 9223372036854775807
 i:∀ x ∈ f.is,-9223372036854775808 ≤ x ∧ x ≤ 9223372036854775807
 n:∀ x ∈ f.ns,W64 x
 l:f.cs.length ≤ 9223372036854775807 ∧ f.is.length ≤ 9223372036854775807 ∧ f.ns.length ≤ 9223372036854775807
abbrev FactV (C I N:Value):Value:=.agg #[C,I,N]
end Go.Proofs.YtpgchfihedcdkaaGreatDoor
namespace Go.Proofs.YtpgchfihedcdkaaGreatDoor
set_option maxRecDepth 100000
open Go.RowKit
set_option linter.unusedVariables false
abbrev FaO (C I N:Value):Obj:=.cells #[C,I,N] 82
def FBox (w:World) (K:Nat) (C I N:Value):Prop:=w.heap[K]? = some (.cells #[C,I,N] 82 (0,0))
theorem FBox.reads {w:World} {K:Nat} {C I N:Value} (h:FBox w K C I N):w.cell? ⟨K,0,none⟩ = some C ∧ w.cell? ⟨K,1,none⟩ = some I ∧ w.cell? ⟨K,2,none⟩ = some N:=by
 unfold FBox at h;refine ⟨by simp [World.cell?,h],by simp [World.cell?,h],by simp [World.cell?,h]⟩
theorem FBox.lt {w:World} {K:Nat} {C I N:Value} (h:FBox w K C I N):K < w.heap.size:=(Array.getElem?_eq_some_iff.1 h).1
theorem FBox.below {w w':World} {K:Nat} {C I N:Value} (h:FBox w K C I N) (hb:Below w.heap.size w w'):FBox w' K C I N:=by
 unfold FBox; rw [hb.block K h.lt]; exact h
theorem zqyh (w:World) (C I N:Value):FBox (w.alloc (FaO C I N)) w.heap.size C I N:=heap_alloc_new w _
set_option maxRecDepth 100000
open Go.RowKit
set_option linter.unusedVariables false
set_option maxRecDepth 100000
open Go.RowKit
set_option linter.unusedVariables false
end Go.Proofs.YtpgchfihedcdkaaGreatDoor
namespace Go.Proofs.YtpgchfihedcdkaaGreatDoor
set_option maxRecDepth 100000
open Go.RowKit
set_option linter.unusedVariables false
theorem zqu9 (w:World) (s:ByteArray):Ints .u8 (Lib.bytesWorld w 5 s) (.slice (some ⟨w.heap.size,0,none⟩) s.size (grownCap w s.size 0 5)) (ofS s):=by
 refine ⟨some ⟨w.heap.size,0,none⟩,_,by rw [zqlk],?_,.inr ⟨w.heap.size,0,rfl,?_,fun i hi => ?_⟩⟩
 ·rw [zqlk]; exact grownCap_ge _ _ _ _
 ·rw [Lib.bytesWorld_size]; omega
 ·rw [zqlk] at hi;rw [Nat.zero_add,Lib.bytesWorld_cell w _ s i hi]
  congr 2
  unfold ofS;have hg:s.data[i]? = some (s.data[i]'hi):=Array.getElem?_eq_getElem hi;simp only [List.getD,List.getElem?_map,Array.getElem?_toList,hg]
  rfl
theorem zq0b (w:World) (s:ByteArray):(convert 9 36 (.string s)).run Tryz.prog w = .ok (.slice (some ⟨w.heap.size,0,none⟩) s.size (grownCap w s.size 0 5)) (Lib.bytesWorld w 5 s) :=
 Lib.run_convert_string_bytes w 9 36 5 s Tryz.underlying9 Tryz.underlying36 Tryz.underlying5
theorem zqrk (w:World) (s:ByteArray):Below w.heap.size w (Lib.bytesWorld w 5 s):=Joins.below_bytesWorld _ _ _ _ (Nat.le_refl _)
end Go.Proofs.YtpgchfihedcdkaaGreatDoor
namespace Go.Proofs.YtpgchfihedcdkaaGreatDoor
set_option maxRecDepth 100000
open Go.RowKit
set_option linter.unusedVariables false
theorem zqo6 (w:World) (D I M V C J N:Value) (W:World) (hW:(w.alloc (SchO D I M V)).alloc (FaO C J N) = W) :
  Below w.heap.size w W ∧ Box W w.heap.size D I M V ∧ FBox W (w.heap.size + 1) C J N:=by
 subst hW;have hz:(w.alloc (SchO D I M V)).heap.size = w.heap.size + 1:=by simp
 have k2:=zqyh (w.alloc (SchO D I M V)) C J N;rw [hz] at k2;exact ⟨zqaa (zqab _ _) (zqab _ _),(zqa6 w D I M V).below (zqab _ _),k2⟩
theorem zqji {S:Sc} {f:Fa} (h:f.cs.length ≠ S.ds.length ∨ f.is.length ≠ S.is.length ∨ f.ns.length ≠ S.ns.length):((fitsL S f:Nat):Int) = 3:=by
 unfold fitsL; rw [if_pos h]; rfl
theorem zqqp {S:Sc} {f:Fa} (h1:f.cs.length = S.ds.length) (h2:f.is.length = S.is.length) (h3:f.ns.length = S.ns.length):fitsL S f = if codB S.ds f.cs = true then 0 else 2:=by
 unfold fitsL; rw [if_neg (by omega)]
theorem zqyj {S:Sc} {f:Fa} (h1:f.cs.length = S.ds.length) (h2:f.is.length = S.is.length) (h3:f.ns.length = S.ns.length) {k:Nat} (hk:k < f.cs.length) (h:codAt S.ds f.cs k = false):((fitsL S f:Nat):Int) = 2:=by
 rw [zqqp h1 h2 h3,if_neg (by rw [zq07 hk h]; decide)]; rfl
theorem zqun {S:Sc} {f:Fa} (h1:f.cs.length = S.ds.length) (h2:f.is.length = S.is.length) (h3:f.ns.length = S.ns.length) (h:∀ j,j < f.cs.length → codAt S.ds f.cs j = true):((fitsL S f:Nat):Int) = 0:=by
 rw [zqqp h1 h2 h3,if_pos (zqx0 h)]; rfl
theorem zq2w {ds:List (ByteArray × Int)} {cs:List Int} {k:Nat} (h:cs.getD k 0 < 0):codAt ds cs k = false:=by
 unfold codAt; rw [decide_eq_false (by omega)]; rfl
theorem zq2v {ds:List (ByteArray × Int)} {cs:List Int} {k:Nat} (h:dz ds k ≤ cs.getD k 0):codAt ds cs k = false:=by
 unfold codAt; rw [decide_eq_false (p:=cs.getD k 0 < dz ds k) (by omega)]; simp
theorem zq2x {ds:List (ByteArray × Int)} {cs:List Int} {k:Nat} (h0:¬ cs.getD k 0 < 0) (h:¬ dz ds k ≤ cs.getD k 0):codAt ds cs k = true:=by
 unfold codAt; rw [decide_eq_true (by omega),decide_eq_true (p:=cs.getD k 0 < dz ds k) (by omega)]; rfl
theorem zqxg {P:Nat → Prop} {k:Nat} (h:∀ j,j < k → P j) (hk:P k):∀ j,j < k + 1 → P j:=fun j hj => if h0:j < k then h j h0 else by
 have e:j = k:=by omega
 rw [e]; exact hk
set_option maxHeartbeats 8000000 in
theorem zqsu (w:World) (D I M V C J N:Value) (S:Sc) (f:Fa) (h:Sch4 w D I M V S) (h':Fact3 w C J N f) (hf:FaWf f) :
  Calls Tryz.prog 163 #[SchV D I M V,FactV C J N] w fun e w' => e = .returned (.int .i64 (fitsL S f:Nat)) ∧ Below w.heap.size w w':=by
 obtain ⟨W,hW⟩:∃ W,(w.alloc (SchO D I M V)).alloc (FaO C J N) = W:=⟨_,rfl⟩
 obtain ⟨hb,hx,hx'⟩:=zqo6 w D I M V C J N W hW;have HB:=zh hb;have HX:=zh (And.intro hx hx');obtain ⟨⟨a,c,rfl⟩,⟨a2,c2,rfl⟩,⟨a3,c3,rfl⟩,a4,c4,rfl⟩:=h.slices;obtain ⟨⟨b,d,rfl⟩,⟨b2,d2,rfl⟩,b3,d3,rfl⟩:=h'.slices;obtain ⟨x0,x1,x2,x3⟩:=hx.reads;obtain ⟨y0,y1,y2⟩:=hx'.reads
 by_cases n1:f.cs.length = S.ds.length
 ·by_cases n2:f.is.length = S.is.length
  ·by_cases n3:f.ns.length = S.ns.length
   ·obtain ⟨a',cap',e',-,-,h3⟩:=h.d.below hb;injection e' with e1 e2 e3;subst e1 e3;have HC:=zh h3;clear h3 e2;obtain ⟨a',cap',e',-,h3⟩:=h'.c.below hb;injection e' with e1 e2 e3;subst e1 e3;have HC':=zh h3;clear h3 e2;have HY:=zh (fun h => zqun n1 n2 n3 h)
    have HE:=zh (fun k hk h => zqyj n1 n2 n3 (k:=k) hk h)
    have HQ:=zh n1;have hl:=hf.l.1;rw [n1] at HX y0 hW ⊢;rw [n2] at HX y1 hW ⊢;rw [n3] at HX y2 hW ⊢;rw [n1] at HC' HY hl;clear h h' hb hx hx' hf n1 n2 n3;generalize ((fitsL S f:Nat):Int) = R at *;go_enter Tryz.func163,Tryz.ntmps163;go_wp2_with fail;clear x0 x1 x2 x3 y0 y1 y2 hW;go_loopw [35] (fun i wr => ∃ k:Nat,k ≤ S.ds.length ∧ i = .int .i64 k ∧ Hid (Drawn W wr) ∧ Hid (∀ j,j < k → codAt S.ds f.cs j = true)) (fun i _ => S.ds.length - (intOf i).toNat)
    case atStart => exact ⟨0,Nat.zero_le _,rfl,zh (Drawn.refl _),zh (fun j hj => by omega)⟩
    case round =>
     obtain ⟨k,hk,rfl,HD,HJ⟩:=hrel;obtain ⟨x0,x1,x2,x3⟩:=(HX.out.1.below HD.out.below).reads;obtain ⟨y0,y1,y2⟩:=(HX.out.2.below HD.out.below).reads
     by_cases hlk:k < S.ds.length
     ·have hlk':(k:Int) < (S.ds.length:Int):=by omega
      have HK2:=zh (show k < f.cs.length by rw [HQ.out]; exact hlk)
      rcases HC.out with h3 | ⟨bb,off,rfl,hlt,hc⟩
      ·rw [h3] at hlk; simp at hlk
      rcases HC'.out with h3 | ⟨bb',off',rfl,hlt',hc'⟩
      ·have hn:=HK2.out; rw [h3] at hn; simp at hn
      have hx:=(HD.out.below.cell (p:=⟨bb,off + k * 2 + 1,none⟩) hlt).trans (hc k hlk).2;have hx':=(HD.out.below.cell (p:=⟨bb',off' + k,none⟩) hlt').trans (hc' k hlk);have HN:=zh (fun n => HD.out.next n)
      have HE2:=zh (fun h => HE.out k HK2.out h)
      clear hc hc'
      by_cases c1:f.cs.getD k 0 < 0
      ·have hR:=HE2.out (zq2w c1);subst hR;have e1:decide (f.cs.getD k 0 < 0) = true:=decide_eq_true c1;generalize f.cs.getD k 0 = x at hx' c1 e1;generalize dz S.ds k = z at hx;go_wp2_with fail;go_ret;exact ⟨rfl,zqaa HB.out HD.out.below⟩
      ·by_cases c2:dz S.ds k ≤ f.cs.getD k 0
       ·have hR:=HE2.out (zq2v c2);subst hR;have e1:decide (f.cs.getD k 0 < 0) = false:=decide_eq_false c1;have e2:decide (dz S.ds k ≤ f.cs.getD k 0) = true:=decide_eq_true c2;generalize f.cs.getD k 0 = x at hx' c1 e1 c2 e2;generalize dz S.ds k = z at hx c2 e2;go_wp2_with fail;go_ret;exact ⟨rfl,zqaa HB.out HD.out.below⟩
       ·have HJ2:=zh (zqxg HJ.out (zq2x c1 c2));have e1:decide (f.cs.getD k 0 < 0) = false:=decide_eq_false c1;have e2:decide (dz S.ds k ≤ f.cs.getD k 0) = false:=decide_eq_false c2;generalize f.cs.getD k 0 = x at hx' c1 e1 c2 e2;generalize dz S.ds k = z at hx c2 e2;have HD2:=HD;go_wp2_with fail;go_roundw
        case rel => exact ⟨k + 1,by omega,by go_num,HD2,HJ2⟩
        case measure => simp [intOf]; omega
     ·have hke:k = S.ds.length:=by omega
      subst hke;have hR:=HY.out HJ.out;subst hR;go_wp2_with fail;go_ret;exact ⟨rfl,zqaa HB.out HD.out.below⟩
   ·rw [zqji (.inr (.inr n3))];have e1:((f.cs.length:Int) != (S.ds.length:Int)) = false:=by rw [n1]; simp
    have e2:((f.is.length:Int) != (S.is.length:Int)) = false:=by rw [n2]; simp
    have e3:((f.ns.length:Int) != (S.ns.length:Int)) = true:=by simp; omega
    clear h h' hb hx hx' hf n1 n2 n3;go_enter Tryz.func163,Tryz.ntmps163;go_wp2_with fail;go_ret;exact ⟨rfl,HB.out⟩
  ·rw [zqji (.inr (.inl n2))];have e1:((f.cs.length:Int) != (S.ds.length:Int)) = false:=by rw [n1]; simp
   have e2:((f.is.length:Int) != (S.is.length:Int)) = true:=by simp; omega
   clear h h' hb hx hx' hf n1 n2;go_enter Tryz.func163,Tryz.ntmps163;go_wp2_with fail;go_ret;exact ⟨rfl,HB.out⟩
 ·rw [zqji (.inl n1)];have e1:((f.cs.length:Int) != (S.ds.length:Int)) = true:=by simp; omega
  clear h h' hb hx hx' hf n1;go_enter Tryz.func163,Tryz.ntmps163;go_wp2_with fail;go_ret;exact ⟨rfl,HB.out⟩
set_option maxHeartbeats 4000000 in
theorem zqrz (w:World) (D I M V C J N:Value) (S:Sc) (f:Fa) (h:Sch4 w D I M V S) (hw:SWf S) (h':Fact3 w C J N f) (hf:FaWf f) :
  Calls Tryz.prog 84 #[SchV D I M V,FactV C J N] w fun e w' => e = .returned (.int .i64 (if checkL S = 0 then (fitsL S f:Nat) else 1)) ∧ Below w.heap.size w w':=by
 obtain ⟨W,hW⟩:∃ W,(w.alloc (SchO D I M V)).alloc (FaO C J N) = W:=⟨_,rfl⟩
 obtain ⟨hb,hx,hx'⟩:=zqo6 w D I M V C J N W hW;have HB:=zh hb;have HX:=zh (And.intro hx hx');have HC:=zh (zqhh W D I M V S (h.below hb) hw);have HF:=zh (fun w1 (hb1:Below W.heap.size W w1) => zqsu w1 D I M V C J N S f (h.below (zqaa hb hb1)) (h'.below (zqaa hb hb1)) hf)
 obtain ⟨⟨a,c,rfl⟩,⟨a2,c2,rfl⟩,⟨a3,c3,rfl⟩,a4,c4,rfl⟩:=h.slices;obtain ⟨⟨b,d,rfl⟩,⟨b2,d2,rfl⟩,b3,d3,rfl⟩:=h'.slices;obtain ⟨x0,x1,x2,x3⟩:=hx.reads;obtain ⟨y0,y1,y2⟩:=hx'.reads
 by_cases hc:checkL S = 0
 ·rw [if_pos hc];rw [hc] at HC;generalize ((fitsL S f:Nat):Int) = R at *;clear h h' hb hx hx' hf hc hw;go_enter Tryz.func84,Tryz.ntmps84;go_wp2_with fail;refine (HC.out).mono ?_; rintro e w1 ⟨rfl,hb1⟩;have HB1:=zh hb1;clear x0 x1 x2 x3 y0 y1 y2 hb1 hW;obtain ⟨x0,x1,x2,x3⟩:=(HX.out.1.below HB1.out).reads;obtain ⟨y0,y1,y2⟩:=(HX.out.2.below HB1.out).reads;go_wp2_with fail;refine (HF.out _ HB1.out).mono ?_; rintro e w2 ⟨rfl,hb2⟩;have HB2:=zh (zqaa HB.out (zqaa HB1.out hb2));clear hb2;go_wp2_with fail;go_ret;exact ⟨rfl,HB2.out⟩
 ·rw [if_neg hc];have hc2:((checkL S:Int) != 0) = true:=by simp; omega
  generalize (checkL S:Int) = ck at *;clear h h' hb hx hx' hf hc hw;go_enter Tryz.func84,Tryz.ntmps84;go_wp2_with fail;refine (HC.out).mono ?_; rintro e w1 ⟨rfl,hb1⟩;have HB1:=zh (zqaa HB.out hb1);clear hb1;go_wp2_with fail;go_ret;exact ⟨rfl,HB1.out⟩
set_option maxRecDepth 100000
open Go.RowKit
set_option linter.unusedVariables false
theorem zqfa {α:Type} {e:α → List Int} {l:List α} {k:Nat} (hk:k < l.length):(l.take (k + 1)).flatMap e = (l.take k).flatMap e ++ e l[k]:=by
 rw [List.take_add_one,List.getElem?_eq_getElem hk,List.flatMap_append];simp
theorem zqev {α:Type} {e:α → List Int} {n:Nat} {l:List α} (h:∀ x ∈ l,(e x).length ≤ n):∀ k,((l.take k).flatMap e).length ≤ n * k
 | 0 => by simp
 | k + 1 => by
  have ih:=zqev h k
  by_cases hk:k < l.length
  ·rw [zqfa hk,List.length_append];have:=h _ (List.getElem_mem hk);rw [Nat.mul_add,Nat.mul_one]; omega
  ·rw [List.take_of_length_le (by omega)]
   rw [List.take_of_length_le (by omega)] at ih
   exact Nat.le_trans ih (Nat.mul_le_mul_left _ (by omega))
theorem zqur {α:Type} {e:α → List Int} {n:Nat} {l:List α} (h:∀ x ∈ l,(e x).length ≤ n):(l.flatMap e).length ≤ n * l.length:=by
 have:=zqev h l.length
 rwa [List.take_length] at this
theorem zqmb {S:Sc} {f:Fa} (hc:checkL S = 0) (hf:FaWf f) (h:fitsL S f = 0):(∀ x ∈ f.cs,0 ≤ x ∧ x ≤ 4096) ∧ f.cs.length ≤ 6 ∧ f.is.length ≤ 3 ∧ f.ns.length ≤ 2:=by
 have hn:=zqb0.1 (zqdh hc).1;have h1:=zqqq h;have h2:=zqpy hc hf.i hf.n h;refine ⟨fun x hx => ?_,by omega,by omega,by omega⟩
 obtain ⟨k,hk⟩:=List.getElem?_of_mem hx;have:=h2.c k x hk;omega
set_option maxRecDepth 100000
open Go.RowKit
set_option linter.unusedVariables false
theorem zqwc (x:Nat) (w:World) (hx:W64 x):Calls Tryz.prog 49 #[.float .f64 x] w (BytesP w (eN x)):=by
 have hk:=zqhv hx;exact zq3c x (keyI x).toNat w hx (by omega)
theorem zqu7 {w:World} {k:IntKind} {a:Option Addr} {n cap:Nat} {xs:List Int} {j:Nat} (h:Ints k w (.slice a n cap) xs) (hj:j < xs.length):∃ b off,a = some ⟨b,off,none⟩ ∧ b < w.heap.size ∧ w.cell? ⟨b,off + j,none⟩ = some (.int k (xs.getD j 0)):=by
 obtain ⟨a',cap',e',-,h3⟩:=h;injection e' with e1 e2 e3;subst e1;rcases h3 with h3 | ⟨b,off,rfl,hlt,hc⟩
 ·rw [h3] at hj; simp at hj
 ·exact ⟨b,off,rfl,hlt,hc j hj⟩
theorem fl_at {w:World} {a:Option Addr} {n cap:Nat} {xs:List Nat} {j:Nat} (h:Fls w (.slice a n cap) xs) (hj:j < xs.length):∃ b off,a = some ⟨b,off,none⟩ ∧ b < w.heap.size ∧ w.cell? ⟨b,off + j,none⟩ = some (.float .f64 (xs.getD j 0)):=by
 obtain ⟨a',cap',e',-,h3⟩:=h;injection e' with e1 e2 e3;subst e1;rcases h3 with h3 | ⟨b,off,rfl,hlt,hc⟩
 ·rw [h3] at hj; simp at hj
 ·exact ⟨b,off,rfl,hlt,hc j hj⟩
theorem zqew {α:Type} {P:α → Prop} {l:List α} {d:α} (h:∀ x ∈ l,P x) {k:Nat} (hk:k < l.length):P (l.getD k d):=by
 have e:l.getD k d = l[k]:=by simp [List.getD,hk]
 rw [e]; exact h _ (List.getElem_mem hk)
theorem zqr1 {α:Type} {e:α → List Int} {l:List α} {d:α} {k:Nat} (hk:k < l.length):(l.take (k + 1)).flatMap e = (l.take k).flatMap e ++ e (l.getD k d):=by
 have e1:l.getD k d = l[k]:=by simp [List.getD,hk]
 rw [e1]; exact zqfa hk
set_option maxRecDepth 100000
open Go.RowKit
set_option linter.unusedVariables false
def exT:Sc:=⟨[(⟨#[97]⟩,2)],[⟨#[109]⟩],[],[]⟩
theorem zq21:SWf exT:=by
 refine ⟨?_,?_,?_,?_⟩
 ·intro d h;simp only [exT,List.mem_cons,List.not_mem_nil,or_false] at h;subst h; decide
 ·intro s h;simp only [exT,List.mem_cons,List.not_mem_nil,or_false] at h;subst h; decide
 ·intro s h; simp [exT] at h
 ·intro v h; simp [exT] at h
theorem zqye (w:World) (N:Nat) (T:TypeId) (hN:w.heap.size = N):Dims (w.alloc (.cells #[.string ⟨#[97]⟩,.int .i64 2] T)) (.slice (some ⟨N,0,none⟩) 1 1) exT.ds:=by
 subst hN;refine ⟨_,_,rfl,by simp [exT],by simp [exT],.inr ⟨w.heap.size,0,rfl,by simp,fun i hi => ?_⟩⟩
 have h2:i < 1:=hi;obtain rfl:i = 0:=by omega
 exact ⟨by simp [go_sem,dn,exT],by simp [go_sem,dz,exT]⟩
end Go.Proofs.YtpgchfihedcdkaaGreatDoor
namespace Go.Proofs.YtpgchfihedcdkaaGreatDoor
set_option maxRecDepth 100000
open Go.RowKit
set_option linter.unusedVariables false
def encWh (x:Wh):List Int:=encI x.sum ++ encI x.abs ++ encU x.sq.length ++ x.sq.flatMap eU ++ encI x.mn ++ encI x.mx
def encRe (x:Re):List Int:=encU x.sum.length ++ x.sum ++ eN x.mn ++ eN x.mx
def encC (c:Ce):List Int:=encU c.key.toNat ++ encI c.cnt ++ c.is.flatMap encWh ++ c.ns.flatMap encRe
theorem zqqm {l:List Int} (h:Wd l):∀ x ∈ l,(eU x).length ≤ 9:=fun x hx => by
 have:=h x hx;exact (zqdr (by omega)).2
theorem zqyb {x:Wh} (h:WhW x) (hl:x.sq.length ≤ 20):(encWh x).length ≤ 225:=by
 have k:=zqur (zqqm h.sq);have a1:=(zqca h.sum.1 h.sum.2).2;have a2:=(zqca h.abs.1 h.abs.2).2;have a3:=(zqca h.mn.1 h.mn.2).2;have a4:=(zqca h.mx.1 h.mx.2).2;have a5:=(zqdr (x:=x.sq.length) (by omega)).2
 unfold encWh;simp only [List.length_append];omega
theorem zqj4 (x:Nat):(eN x).length = 8:=by unfold eN encF; rw [zqcc]
theorem zqya {x:Re} (hl:x.sum.length ≤ 300):(encRe x).length ≤ 325:=by
 have a5:=(zqdr (x:=x.sum.length) (by omega)).2
 have a6:=zqj4 x.mn;have a7:=zqj4 x.mx;unfold encRe;simp only [List.length_append];omega
theorem zq2p {l:List Wh} {k:Nat} (hk:k < l.length):(l.take (k + 1)).flatMap encWh = (l.take k).flatMap encWh ++ encWh (wg l k):=by
 rw [zqbl hk]; exact zqfa hk
theorem zq17 {l:List Re} {k:Nat} (hk:k < l.length):(l.take (k + 1)).flatMap encRe = (l.take k).flatMap encRe ++ encRe (rg l k):=by
 rw [zqa3 hk]; exact zqfa hk
end Go.Proofs.YtpgchfihedcdkaaGreatDoor
