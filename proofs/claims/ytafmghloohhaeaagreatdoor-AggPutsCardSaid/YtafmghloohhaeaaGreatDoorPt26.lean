/- Contracts that the law leans on: Facc Faci Bufo Bufq Scif. -/
import Derived.BigQuiet
import Derived.Deep.QuietTactic
import Derived.Deep.RegionHeld3
import Derived.Laws.CopyRow
import Derived.Laws.IdiomCopy
import Derived.Laws.OwnMore
import Derived.Laws.MakeOwn
import Derived.Lib.ConvBytes
import Derived.Lib.SmallJoins
import Derived.Test.YtafmghloohhaeaaGreatDoorPt02
import Derived.Test.YtafmghloohhaeaaGreatDoorPt09
import Derived.Test.YtafmghloohhaeaaGreatDoorPt22
import Derived.Test.YtafmghloohhaeaaGreatDoorPt23
import Derived.Test.YtafmghloohhaeaaGreatDoorPt24
import Derived.Test.YtafmghloohhaeaaGreatDoorPt25
namespace Go.Proofs.YtafmghloohhaeaaGreatDoor
set_option maxRecDepth 100000
open Go.RowKit
set_option linter.unusedVariables false
theorem zqww {b:List Int} (hb:Bt b) (h:(getI b).2.2 = 0):b.take (getI b).2.1 = encI (getI b).1 ∧ -9223372036854775808 ≤ (getI b).1 ∧ (getI b).1 ≤ 9223372036854775807:=by
 cases b with
 | nil => simp [getI] at h
 | cons c t =>
  rw [zqb5] at h ⊢
  split at h
  ·simp at h
  ·rename_i h1
   split at h
   ·simp at h
   ·rename_i h2;rw [if_neg h1,if_neg h2];have hc:=hb.head;simp only;have h8:sizeI c ≤ 8:=by
     by_cases q:8 < sizeI c
     ·exact absurd (.inl q) h1
     ·omega
    have hcn:(c < 9 ∧ c = 8 - (sizeI c:Int)) ∨ (9 ≤ c ∧ c = 9 + (sizeI c:Int)):=by
     unfold sizeI
     by_cases q:c < 9
     ·rw [if_pos q]; left; omega
     ·rw [if_neg q]; right; omega
    generalize sizeI c = n at *;have hl:n ≤ t.length:=by omega
    have hr:=zqao hb.tail (f:=0) (by decide) (by decide) n
    have hp:((256 ^ n:Nat):Int) = 256 ^ n:=by rw [Int.natCast_pow]; rfl
    obtain ⟨X,hX⟩:∃ X:Nat,fillN t 0 n = X:=⟨(fillN t 0 n).toNat,by omega⟩
    have hXl:X < 256 ^ n:=by rw [hX,← hp] at hr; omega
    have hbf:=zqf5 hb.tail n hl;have hle:256 ^ n ≤ 256 ^ 8:=Nat.pow_le_pow_right (by decide) h8
    have h88:(256:Nat) ^ 8 = 18446744073709551616:=by decide
    rw [hX] at hbf;rw [hX,← hp];simp only [Int.toNat_natCast] at hbf;have htop:n = 0 ∨ ∃ k d u,n = k + 1 ∧ t = d :: u ∧ X = d.toNat * 256 ^ k + (fillN u 0 k).toNat ∧ (fillN u 0 k).toNat < 256 ^ k ∧ 0 ≤ d ∧ d ≤ 255:=by
     by_cases h0:n = 0
     ·exact .inl h0
     ·right;obtain ⟨k,rfl⟩:∃ k,n = k + 1:=⟨n - 1,by omega⟩
      cases t with
      | nil => simp at hl
      | cons d u =>
       have hd:=hb.tail.head;have hr2:=zqao hb.tail.tail (f:=0) (by decide) (by decide) k
       have hpk:((256 ^ k:Nat):Int) = 256 ^ k:=by rw [Int.natCast_pow]; rfl
       rw [zqbx] at hX;simp only [List.tail_cons,List.getD_cons_zero] at hX hr2;obtain ⟨F,hF⟩:∃ F:Nat,fillN u 0 k = F:=⟨(fillN u 0 k).toNat,by omega⟩
       obtain ⟨e,rfl⟩:∃ e:Nat,d = e:=⟨d.toNat,by omega⟩
       refine ⟨k,_,_,rfl,rfl,?_,?_,hd.1,hd.2⟩
       ·rw [hF,← hpk,← Int.natCast_mul,← Int.natCast_add] at hX;rw [hF];simp only [Int.toNat_natCast];exact (Int.ofNat.inj hX).symm
       ·rw [hF,← hpk] at hr2;rw [hF,Int.toNat_natCast];omega
    rcases hcn with ⟨hc9,hce⟩ | ⟨hc9,hce⟩
    ·rw [if_pos hc9];have hx0:¬ 0 ≤ (X:Int) - ((256 ^ n:Nat):Int):=by omega
     have hy:(-1 - ((X:Int) - ((256 ^ n:Nat):Int))).toNat = 256 ^ n - 1 - X:=by omega
     have hlow:IsLen (256 ^ n - 1 - X) n ∧ 256 ^ n - 1 - X < 9223372036854775808:=by
      rcases htop with h0 | ⟨k,d,u,rfl,rfl,e1,e2,d0,d1⟩
      ·subst h0; refine ⟨⟨by omega,.inl rfl⟩,by omega⟩
      ·have hd:¬ (d = 255 ∨ (k + 1 = 8 ∧ d < 128)):=by
        intro q;refine h1 (.inr ⟨by omega,by simp,?_⟩)
        rw [if_pos hc9];simpa using q
       have hpk:=zqbo k;have hpw:256 ^ (k + 1) = 256 ^ k * 256:=Nat.pow_succ ..;have hm:d.toNat * 256 ^ k ≤ 254 * 256 ^ k:=Nat.mul_le_mul_right _ (by omega)
       refine ⟨⟨by omega,.inr ?_⟩,?_⟩
       ·simp only [Nat.add_sub_cancel]; omega
       ·by_cases k8:k + 1 = 8
        ·obtain rfl:k = 7:=by omega
         have hm2:128 * 256 ^ 7 ≤ d.toNat * 256 ^ 7:=Nat.mul_le_mul_right _ (by omega)
         omega
        ·have:256 ^ (k + 1) ≤ 256 ^ 7:=Nat.pow_le_pow_right (by decide) (by omega)
         omega
     refine ⟨?_,by omega,by omega⟩
     unfold encI;rw [if_neg hx0,hy,(zqb2 _ (by omega)).unique hlow.1,List.take_succ_cons,← hbf,← hce]
     congr 1
     have hdv:∃ q,18446744073709551616 = 256 ^ n * q:=⟨256 ^ (8 - n),by rw [← Nat.pow_add,show n + (8 - n) = 8 by omega]⟩
     obtain ⟨q,hq⟩:=hdv;have hq1:1 ≤ q:=by
      by_cases q0:q = 0
      ·subst q0; simp at hq
      ·omega
     have hmod:(((X:Int) - ((256 ^ n:Nat):Int)) % 18446744073709551616).toNat = X + 256 ^ n * (q - 1):=by
      have e:256 ^ n * (q - 1) = 18446744073709551616 - 256 ^ n:=by rw [Nat.mul_sub,← hq,Nat.mul_one]
      rw [e];omega
     rw [hmod,← zqhx (X + 256 ^ n * (q - 1)) n n (Nat.le_refl _),Nat.add_mul_mod_self_left,Nat.mod_eq_of_lt hXl]
    ·rw [if_neg (by omega)]
     have hlow:IsLen X n ∧ X < 9223372036854775808:=by
      rcases htop with h0 | ⟨k,d,u,rfl,rfl,e1,e2,d0,d1⟩
      ·subst h0; refine ⟨⟨hXl,.inl rfl⟩,by omega⟩
      ·have hd:¬ (d = 0 ∨ (k + 1 = 8 ∧ 127 < d)):=by
        intro q;refine h1 (.inr ⟨by omega,by simp,?_⟩)
        rw [if_neg (by omega)]
        simpa using q
       have hpk:=zqbo k;have hm:1 * 256 ^ k ≤ d.toNat * 256 ^ k:=Nat.mul_le_mul_right _ (by omega)
       refine ⟨⟨hXl,.inr ?_⟩,?_⟩
       ·simp only [Nat.add_sub_cancel]; omega
       ·by_cases k8:k + 1 = 8
        ·obtain rfl:k = 7:=by omega
         have hm2:d.toNat * 256 ^ 7 ≤ 127 * 256 ^ 7:=Nat.mul_le_mul_right _ (by omega)
         omega
        ·have:256 ^ (k + 1) ≤ 256 ^ 7:=Nat.pow_le_pow_right (by decide) (by omega)
         omega
     refine ⟨?_,by omega,by omega⟩
     unfold encI;rw [if_pos (by omega),Int.toNat_natCast,(zqb2 _ (by omega)).unique hlow.1,List.take_succ_cons,hbf,← hce]
def listK {α:Type} (rd:Nat → Nat × Nat → α × Nat × Nat) (s:Nat × Nat):Nat → List α × Nat × Nat
 | 0 => ([],s)
 | k + 1 => ((listK rd s k).1 ++ [(rd k (listK rd s k).2).1],(rd k (listK rd s k).2).2)
theorem zqbt {α:Type} {rd:Nat → Nat × Nat → α × Nat × Nat} {P:Nat × Nat → Prop} (h:∀ k s,P s → P (rd k s).2) {s:Nat × Nat} (hs:P s):∀ k,P (listK rd s k).2 ∧ (listK rd s k).1.length = k
 | 0 => ⟨hs,rfl⟩
 | k + 1 => ⟨h _ _ (zqbt h hs k).1,by simp [listK,(zqbt h hs k).2]⟩
theorem zqes {α:Type} {rd:Nat → Nat × Nat → α × Nat × Nat} {Q:Nat → α → Prop} (h:∀ k s,Q k (rd k s).1) (s:Nat × Nat):∀ k j x,(listK rd s k).1[j]? = some x → Q j x
 | 0,j,x,hx => by simp [listK] at hx
 | k + 1,j,x,hx => by
  have hl:=(zqbt (P:=fun _ => True) (fun _ _ _ => True.intro) (rd:=rd) (s:=s) True.intro k).2
  rw [listK] at hx;simp only at hx
  by_cases hj:j < k
  ·rw [List.getElem?_append_left (by omega)] at hx
   exact zqes h s k j x hx
  ·rw [List.getElem?_append_right (by omega),hl] at hx
   by_cases hjk:j = k
   ·subst hjk;simp only [Nat.sub_self,List.getElem?_cons_zero,Option.some.injEq] at hx;exact hx ▸ h _ _
   ·obtain ⟨m,hm⟩:∃ m,j - k = m + 1:=⟨j - k - 1,by omega⟩
    rw [hm] at hx;simp at hx
def FwdR {α β:Type} (b:List Int) (rd:Nat × Nat → β × Nat × Nat) (enc:α → List Int) (x:α) (y:β):Prop:=∀ p rest,b.drop p = enc x ++ rest → rd (p,0) = (y,p + (enc x).length,0)
theorem zqk2 {α β:Type} {b:List Int} {rd:Nat → Nat × Nat → β × Nat × Nat} {enc:α → List Int} {g:α → β} {l:List α} (h:∀ k x,l[k]? = some x → FwdR b (rd k) enc x (g x)) {p:Nat} {rest:List Int} (hd:b.drop p = l.flatMap enc ++ rest):∀ k,k ≤ l.length → listK rd (p,0) k = ((l.take k).map g,p + ((l.take k).flatMap enc).length,0)
 | 0,_ => by simp [listK]
 | k + 1,hk => by
  have ih:=zqk2 h hd k (by omega)
  have hg:l.drop k = l[k] :: l.drop (k + 1):=List.drop_eq_getElem_cons (by omega)
  have h1:b.drop (p + ((l.take k).flatMap enc).length) = enc l[k] ++ ((l.drop (k + 1)).flatMap enc ++ rest):=by
   refine zqbc (X:=(l.take k).flatMap enc) ?_;rw [hd]
   conv => lhs; rw [← List.take_append_drop k l,List.flatMap_append,hg,List.flatMap_cons]
   simp only [List.append_assoc]
  have t1:=h k l[k] (List.getElem?_eq_getElem (by omega)) _ _ h1
  have et:l.take (k + 1) = l.take k ++ [l[k]]:=by rw [List.take_add_one,List.getElem?_eq_getElem (by omega)]; rfl
  rw [listK,ih];simp only;rw [t1,et,List.flatMap_append,List.map_append];simp [Nat.add_assoc]
theorem zqe5 {α β:Type} {b:List Int} {rd:Nat → Nat × Nat → β × Nat × Nat} {enc:α → List Int} {g:α → β} {l:List α} (h:∀ k x,l[k]? = some x → FwdR b (rd k) enc x (g x)):FwdR b (fun s => listK rd s l.length) (fun l => l.flatMap enc) l (l.map g):=fun p rest hd => by
 have:=zqk2 h hd l.length (Nat.le_refl _);rw [List.take_length] at this;exact this
def stI (b:List Int) (s:Nat × Nat):Int × Nat × Nat :=
 if s.2 = 0 then ((getI (b.drop s.1)).1,if (getI (b.drop s.1)).2.2 = 0 then s.1 + (getI (b.drop s.1)).2.1 else s.1,(getI (b.drop s.1)).2.2) else (0,s)
def stF (b:List Int) (s:Nat × Nat):Nat × Nat × Nat :=
 if s.2 = 0 then (if (getF (b.drop s.1)).2 = 0 then fromN (getF (b.drop s.1)).1 else 0,if (getF (b.drop s.1)).2 = 0 then s.1 + 8 else s.1,(getF (b.drop s.1)).2) else (0,s)
theorem zqc6 {b:List Int} {s:Nat × Nat} (h:OkSt b s):OkSt b (stI b s).2:=by
 unfold stI
 split
 ·have:=zqh6 (b:=b.drop s.1);refine ⟨?_,this.2⟩;simp only
  split
  ·rename_i h0;have h1:=this.1 h0;have h2:=h.1;rw [List.length_drop] at h1;omega
  ·exact h.1
 ·exact h
theorem zqm9 {b:List Int} {s:Nat × Nat} (h:OkSt b s):OkSt b (stF b s).2:=by
 unfold stF
 split
 ·have:=zqmg (b:=b.drop s.1);refine ⟨?_,this.2⟩;simp only
  split
  ·rename_i h0;have h1:=this.1 h0;have h2:=h.1;rw [List.length_drop] at h1;omega
  ·exact h.1
 ·exact h
theorem zqfj {b:List Int} (hb:Bt b) (s:Nat × Nat):-9223372036854775808 ≤ (stI b s).1 ∧ (stI b s).1 ≤ 9223372036854775807:=by
 unfold stI
 split
 ·simp only
  by_cases h0:(getI (b.drop s.1)).2.2 = 0
  ·exact (zqww (hb.drop _) h0).2
  ·rw [(zqkx h0).1]; omega
 ·simp only; omega
theorem zqfi {b:List Int} {x:Int} (h0:-9223372036854775808 ≤ x) (h1:x ≤ 9223372036854775807):FwdR b (stI b) encI x x:=fun p rest hd => by
 unfold stI;rw [if_pos rfl];simp only;rw [hd,zqwv h0 h1];simp
def eN (x:Nat):List Int:=encF (keyI x).toNat
theorem zqpd {b:List Int} {x:Nat} (h:Keyed (keyI x)):FwdR b (stF b) eN x (fromN (keyI x)):=fun p rest hd => by
 have hk:=zqbz h;have e:((keyI x).toNat:Int) = keyI x:=by omega
 unfold stF;rw [if_pos rfl];simp only;unfold eN at hd;rw [hd,zqwt (by omega) (by rw [e]; exact h),e]
 simp [eN,encF,zqat]
set_option maxRecDepth 100000
open Go.RowKit
set_option linter.unusedVariables false
structure Fa where
 cs:List Int
 is:List Int
 ns:List Nat
def eU (v:Int):List Int:=encU v.toNat
def normF (f:Fa):Fa:=⟨f.cs,f.is,f.ns.map fun x => fromN (keyI x)⟩
structure FitFa (ms:List Int) (ni nn:Nat) (f:Fa):Prop where
 lc:f.cs.length = ms.length
 li:f.is.length = ni
 ln:f.ns.length = nn
 c:∀ k x,f.cs[k]? = some x → 0 ≤ x ∧ x ≤ ms.getD k 0 ∧ x ≤ 4096
 i:∀ x ∈ f.is,-9223372036854775808 ≤ x ∧ x ≤ 9223372036854775807
 n:∀ x ∈ f.ns,Keyed (keyI x)
set_option maxRecDepth 100000
open Go.RowKit
set_option linter.unusedVariables false
def codAt (ds:List (ByteArray × Int)) (cs:List Int) (k:Nat):Bool:=decide (0 ≤ cs.getD k 0) && decide (cs.getD k 0 < dz ds k)
def codB (ds:List (ByteArray × Int)) (cs:List Int):Bool:=(List.range cs.length).all (codAt ds cs)
theorem zqze {ds:List (ByteArray × Int)} {cs:List Int} {k:Nat} (hk:k < cs.length) (h:codAt ds cs k = false):codB ds cs = false:=List.all_eq_false.2 ⟨k,by simpa using hk,by simp [h]⟩
theorem zqv5 {ds:List (ByteArray × Int)} {cs:List Int} (h:∀ j,j < cs.length → codAt ds cs j = true):codB ds cs = true:=List.all_eq_true.2 fun x hx => h x (by simpa using hx)
theorem zqzf {ds:List (ByteArray × Int)} {cs:List Int} (h:codB ds cs = true) {k:Nat} (hk:k < cs.length):0 ≤ cs.getD k 0 ∧ cs.getD k 0 < dz ds k:=by
 have:=List.all_eq_true.1 h k (by simpa using hk)
 simpa [codAt] using this
def fitsL (S:Sc) (f:Fa):Nat:=if f.cs.length ≠ S.ds.length ∨ f.is.length ≠ S.is.length ∨ f.ns.length ≠ S.ns.length then 3 else if codB S.ds f.cs = true then 0 else 2
theorem zqot {S:Sc} {f:Fa} (h:fitsL S f = 0):f.cs.length = S.ds.length ∧ f.is.length = S.is.length ∧ f.ns.length = S.ns.length ∧ codB S.ds f.cs = true:=by
 unfold fitsL at h
 split at h
 ·simp at h
 ·rename_i q
  split at h
  ·rename_i q2;refine ⟨?_,?_,?_,q2⟩ <;> omega
  ·simp at h
def mostsS (S:Sc):List Int:=S.ds.map fun d => d.2 - 1
theorem zqtv {S:Sc} {k:Nat} (hk:k < S.ds.length):(mostsS S).getD k 0 = dz S.ds k - 1:=by
 rw [zqit hk];simp [mostsS,List.getD,hk]
theorem zqtw (S:Sc):(mostsS S).length = S.ds.length:=by simp [mostsS]
theorem zqsj {S:Sc} (h:checkL S = 0) {k:Nat} (hk:k < S.ds.length):1 ≤ dz S.ds k ∧ dz S.ds k ≤ 4096:=by
 have:=zqcy (zqfq h).2 hk;exact ⟨this.1,this.2.1⟩
theorem zqn1 {S:Sc} {f:Fa} (hc:checkL S = 0) (hi:∀ x ∈ f.is,-9223372036854775808 ≤ x ∧ x ≤ 9223372036854775807) (hn:∀ x ∈ f.ns,W64 x) (h:fitsL S f = 0):FitFa (mostsS S) S.is.length S.ns.length f:=by
 obtain ⟨h1,h2,h3,h4⟩:=zqot h;refine ⟨by rw [zqtw]; exact h1,h2,h3,fun k x hx => ?_,hi,fun x hx => zqb6 (hn x hx)⟩
 have hk:=(List.getElem?_eq_some_iff.1 hx).1;have hg:=zqzf h4 hk;have e:f.cs.getD k 0 = x:=by simp [List.getD,hx]
 rw [e] at hg;have hs:=zqsj hc (k:=k) (by omega)
 rw [zqtv (by omega)]
 omega
set_option maxRecDepth 100000
open Go.RowKit Go.ChangeShapes Go.WideShapes Go.Deep
set_option linter.unusedVariables false
def Fls (w:World) (v:Value) (xs:List Nat):Prop :=
 ∃ a cap,v = .slice a xs.length cap ∧ xs.length ≤ cap ∧ (xs = [] ∨ ∃ b off,a = some ⟨b,off,none⟩ ∧ b < w.heap.size ∧ ∀ i,i < xs.length → w.cell? ⟨b,off + i,none⟩ = some (.float .f64 (xs.getD i 0)))
theorem Fls.below {w w':World} {v:Value} {xs:List Nat} (h:Fls w v xs) (hb:Below w.heap.size w w'):Fls w' v xs:=by
 obtain ⟨a,cap,rfl,h1,h3⟩:=h;refine ⟨a,cap,rfl,h1,?_⟩;rcases h3 with h3 | ⟨b,off,rfl,hlt,hc⟩
 ·exact .inl h3
 ·exact .inr ⟨b,off,rfl,Nat.lt_of_lt_of_le hlt hb.size,fun i hi => (hb.cell (p:=⟨b,_,none⟩) hlt).trans (hc i hi)⟩
structure Fact3 (w:World) (C I N:Value) (f:Fa):Prop where
 c:Ints .i64 w C f.cs
 i:Ints .i64 w I f.is
 n:Fls w N f.ns
theorem Fact3.below {w w':World} {C I N:Value} {f:Fa} (h:Fact3 w C I N f) (hb:Below w.heap.size w w'):Fact3 w' C I N f:=⟨h.c.below hb,h.i.below hb,h.n.below hb⟩
theorem Fact3.slices {w:World} {C I N:Value} {f:Fa} (h:Fact3 w C I N f):(∃ a c,C = .slice a f.cs.length c) ∧ (∃ a c,I = .slice a f.is.length c) ∧ ∃ a c,N = .slice a f.ns.length c:=by
 obtain ⟨⟨a,c,h1,-⟩,⟨a2,c2,h2,-⟩,a3,c3,h3,-⟩:=h;exact ⟨⟨a,c,h1⟩,⟨a2,c2,h2⟩,a3,c3,h3⟩
structure FaWf (f:Fa):Prop where
 c:∀ x ∈ f.cs,-9223372036854775808 ≤ x ∧ x ≤ 9223372036854775807
 i:∀ x ∈ f.is,-9223372036854775808 ≤ x ∧ x ≤ 9223372036854775807
 n:∀ x ∈ f.ns,W64 x
 l:f.cs.length ≤ 9223372036854775807 ∧ f.is.length ≤ 9223372036854775807 ∧ f.ns.length ≤ 9223372036854775807
abbrev FactV (C I N:Value):Value:=.agg #[C,I,N]
theorem zqnf {H:Type} {enc:TypeId × Value → H} {P:Program} {w:World} {base:Nat} {spare:Nat → Bool} {held:Bool} {fuel:Nat} {t:TypeId} {cs:List Value} {x:DataW H × List MemPlace} {k:FloatKind} (ht:P.underlying t = some (.float k)) (h:DataW.trod enc P w base spare held fuel t cs = some x):∃ n,cs = [.float k n] ∧ (Lit.float k n).wf = true:=by
 cases fuel with
 | zero => simp [DataW.trod] at h
 | succ n =>
  unfold DataW.trod at h;rw [ht] at h
  split at h <;> simp_all
end Go.Proofs.YtafmghloohhaeaaGreatDoor
namespace Go.Proofs.YtafmghloohhaeaaGreatDoor
set_option maxRecDepth 100000
open Go.RowKit
set_option linter.unusedVariables false
abbrev FaO (C I N:Value):Obj:=.cells #[C,I,N] 57
def FBox (w:World) (K:Nat) (C I N:Value):Prop:=w.heap[K]? = some (.cells #[C,I,N] 57 (0,0))
theorem FBox.reads {w:World} {K:Nat} {C I N:Value} (h:FBox w K C I N):w.cell? ⟨K,0,none⟩ = some C ∧ w.cell? ⟨K,1,none⟩ = some I ∧ w.cell? ⟨K,2,none⟩ = some N:=by
 unfold FBox at h;refine ⟨by simp [World.cell?,h],by simp [World.cell?,h],by simp [World.cell?,h]⟩
theorem FBox.free {w:World} {K:Nat} {C I N:Value} (h:FBox w K C I N):w.frozen? ⟨K,0,none⟩ = false ∧ w.frozen? ⟨K,1,none⟩ = false ∧ w.frozen? ⟨K,2,none⟩ = false:=by
 unfold FBox at h;refine ⟨by simp [World.frozen?,h],by simp [World.frozen?,h],by simp [World.frozen?,h]⟩
theorem FBox.lt {w:World} {K:Nat} {C I N:Value} (h:FBox w K C I N):K < w.heap.size:=(Array.getElem?_eq_some_iff.1 h).1
theorem FBox.below {w w':World} {K:Nat} {C I N:Value} (h:FBox w K C I N) (hb:Below w.heap.size w w'):FBox w' K C I N:=by
 unfold FBox; rw [hb.block K h.lt]; exact h
theorem FBox.grown {w w':World} {K M:Nat} {C I N:Value} (h:FBox w K C I N) (hg:w.grownBy w' (some M)) (hne:K ≠ M):FBox w' K C I N:=by
 unfold FBox; rw [hg.block K h.lt (by simpa using hne)]; exact h
theorem FBox.set0 {w:World} {K:Nat} {C I N u:Value} (h:FBox w K C I N):FBox (w.setCell ⟨K,0,none⟩ u) K u I N:=heap_setCell_same w K 0 _ _ u h
theorem FBox.set1 {w:World} {K:Nat} {C I N u:Value} (h:FBox w K C I N):FBox (w.setCell ⟨K,1,none⟩ u) K C u N:=heap_setCell_same w K 1 _ _ u h
theorem zqwl (w:World) (C I N:Value):FBox (w.alloc (FaO C I N)) w.heap.size C I N:=heap_alloc_new w _
set_option maxRecDepth 100000
open Go.RowKit
set_option linter.unusedVariables false
set_option maxRecDepth 100000
open Go.RowKit
set_option linter.unusedVariables false
end Go.Proofs.YtafmghloohhaeaaGreatDoor
namespace Go.Proofs.YtafmghloohhaeaaGreatDoor
set_option maxRecDepth 100000
open Go.RowKit
set_option linter.unusedVariables false
def Out3 (w:World) (N:Nat) (v:Value) (s:Nat):Prop:=w.heap[N]? = some (.cells #[v,.int .i64 s,.bool true] 109 (0,0))
theorem Out3.reads {w:World} {N:Nat} {v:Value} {s:Nat} (h:Out3 w N v s) :
  w.cell? ⟨N,0,none⟩ = some v ∧ w.cell? ⟨N,1,none⟩ = some (.int .i64 s) ∧ w.cell? ⟨N,2,none⟩ = some (.bool true):=by
 unfold Out3 at h;refine ⟨by simp [World.cell?,h],by simp [World.cell?,h],by simp [World.cell?,h]⟩
theorem Out3.free {w:World} {N:Nat} {v:Value} {s:Nat} (h:Out3 w N v s):w.frozen? ⟨N,0,none⟩ = false ∧ w.frozen? ⟨N,1,none⟩ = false:=by
 unfold Out3 at h;refine ⟨by simp [World.frozen?,h],by simp [World.frozen?,h]⟩
theorem Out3.lt {w:World} {N:Nat} {v:Value} {s:Nat} (h:Out3 w N v s):N < w.heap.size:=(Array.getElem?_eq_some_iff.1 h).1
theorem Out3.below {w w':World} {N:Nat} {v:Value} {s:Nat} (h:Out3 w N v s) (hb:Below w.heap.size w w'):Out3 w' N v s:=by
 unfold Out3; rw [hb.block N h.lt]; exact h
def Chain (w:World):Value → List (List Int) → Prop
 | v,[] => v = .pointer none
 | v,e :: r => ∃ M d u,v = .pointer (some ⟨M,0,none⟩) ∧ w.heap[M]? = some (.cells #[u,d] 111 (0,0)) ∧ 0 < e.length ∧ Ints .u8 w d e ∧ Typed 5 w d ∧ Chain w u r
theorem Chain.below {w w':World} (hb:Below w.heap.size w w'):∀ {L:List (List Int)} {v:Value},Chain w v L → Chain w' v L
 | [],_,h => h
 | e :: r,v,⟨M,d,u,h1,h2,h0,h3,h4,h5⟩ => ⟨M,d,u,h1,by rw [hb.block M (Array.getElem?_eq_some_iff.1 h2).1]; exact h2,h0,h3.below hb,h4.below hb,h5.below hb⟩
theorem Chain.grown {w w':World} {N:Nat} {x:Value} {s:Nat} (ho:Out3 w N x s) (hg:w.grownBy w' (some N)):∀ {L:List (List Int)} {v:Value},Chain w v L → Chain w' v L
 | [],_,h => h
 | e :: r,v,⟨M,d,u,h1,h2,h0,h3,h4,h5⟩ => by
  have hne:M ≠ N:=by
   rintro rfl;unfold Out3 at ho;rw [h2] at ho;simp only [Option.some.injEq,Obj.cells.injEq] at ho;exact absurd ho.2.1 (by decide)
  refine ⟨M,d,u,h1,?_,h0,h3.grown h4 ho (by decide) hg,h4.grown ho (by decide) hg,h5.grown ho hg⟩
  rw [hg.block M (Array.getElem?_eq_some_iff.1 h2).1 (by simpa using hne)]; exact h2
def catR:List (List Int) → List Int
 | [] => []
 | e :: r => catR r ++ e
def OutAt (w:World) (N:Nat) (L:List (List Int)):Prop:=∃ v,Out3 w N v (catR L).length ∧ Chain w v L
theorem OutAt.below {w w':World} {N:Nat} {L:List (List Int)} (h:OutAt w N L) (hb:Below w.heap.size w w'):OutAt w' N L:=by
 obtain ⟨v,h1,h2⟩:=h;exact ⟨v,h1.below hb,h2.below hb⟩
theorem OutAt.lt {w:World} {N:Nat} {L:List (List Int)} (h:OutAt w N L):N < w.heap.size:=by obtain ⟨v,h1,h2⟩:=h; exact h1.lt
theorem OutAt.more {w:World} {N:Nat} {L:List (List Int)} {x:Value} {d:Value} {e:List Int} (h1:Out3 w N x (catR L).length) (h2:Chain w x L) (hd:Ints .u8 w d e) (ht:Typed 5 w d) (he:0 < e.length) (o:Obj) (ho:o = .cells #[x,d] 111) (q:Int) (hq:q = (catR (e :: L)).length) :
  OutAt (((w.setCell ⟨N,0,none⟩ (.pointer (some ⟨w.heap.size,0,none⟩))).setCell ⟨N,1,none⟩ (.int .i64 q)).alloc o) N (e :: L) ∧ w.grownBy (((w.setCell ⟨N,0,none⟩ (.pointer (some ⟨w.heap.size,0,none⟩))).setCell ⟨N,1,none⟩ (.int .i64 q)).alloc o) (some N):=by
 subst ho hq;have g:=zqaf (zqae w N 0 (.pointer (some ⟨w.heap.size,0,none⟩))) (zqae (w.setCell ⟨N,0,none⟩ (.pointer (some ⟨w.heap.size,0,none⟩))) N 1 (.int .i64 ((catR (e :: L)).length:Nat)));have e1:=heap_setCell_same _ N 0 _ _ (.pointer (some ⟨w.heap.size,0,none⟩)) h1;have e2:=heap_setCell_same _ N 1 _ _ (.int .i64 ((catR (e :: L)).length:Nat)) e1;have hsz:((w.setCell ⟨N,0,none⟩ (.pointer (some ⟨w.heap.size,0,none⟩))).setCell ⟨N,1,none⟩ (.int .i64 ((catR (e :: L)).length:Nat))).heap.size = w.heap.size:=by simp [World.setCell]
 have k2:=h2.grown h1 g;have k3:=hd.grown ht h1 (by decide) g
 have k4:=ht.grown h1 (by decide) g
 generalize (w.setCell ⟨N,0,none⟩ (.pointer (some ⟨w.heap.size,0,none⟩))).setCell ⟨N,1,none⟩ (.int .i64 ((catR (e :: L)).length:Nat)) = W at *;have hb:=zqab W (.cells #[x,d] 111);have hn:=heap_alloc_new W (.cells #[x,d] 111);have k1:Out3 W N (.pointer (some ⟨w.heap.size,0,none⟩)) (catR (e :: L)).length:=e2;rw [hsz] at hn;exact ⟨⟨_,k1.below hb,w.heap.size,d,x,rfl,hn,he,k3.below hb,k4.below hb,k2.below hb⟩,zqaf g (zqah hb (some N))⟩
theorem zqjq (w:World) (N:Nat) (L:List (List Int)) (h:OutAt w N L) :
  Calls Tryz.prog 53 #[.pointer (some ⟨N,0,none⟩)] w fun r w' => r = .returned (.bool true) ∧ w = w':=by
 obtain ⟨v,h1,-⟩:=h;obtain ⟨r0,r1,r2⟩:=h1.reads;clear h1;go_enter Tryz.func53,Tryz.ntmps53;go_wp2_with fail;go_ret;exact ⟨rfl,rfl⟩
def PutP (w:World) (N:Nat) (L:List (List Int)) (e:List Int) (r:Ending) (w':World):Prop:=r = .returned (.tuple #[]) ∧ OutAt w' N (e :: L) ∧ w.grownBy w' (some N)
theorem zqhb (w:World) (N:Nat) (L:List (List Int)) (d:Value) (e:List Int) (h:OutAt w N L) (hd:Ints .u8 w d e) (ht:Typed 5 w d) (he:0 < e.length) (hl:(catR (e :: L)).length ≤ 2000000) :
  Calls Tryz.prog 49 #[.pointer (some ⟨N,0,none⟩),d] w (PutP w N L e):=by
 have HU:=zh (zqjq w N L h);obtain ⟨x,h1,h2⟩:=h;have hlen:(catR (e :: L)).length = (catR L).length + e.length:=by simp [catR]
 have HM:=zh (OutAt.more h1 h2 hd ht he _ rfl ((catR L).length + e.length) (by rw [hlen]; rfl))
 obtain ⟨r0,r1,r2⟩:=h1.reads;obtain ⟨f0,f1⟩:=h1.free;have hN:=h1.lt;have hne:w.heap.size ≠ N:=by omega
 have i1:IntKind.i64.wrap (((catR L).length:Int) + (e.length:Int)) = ((catR L).length:Int) + e.length:=IntWalk.i64_in _ (by omega)
 obtain ⟨a,cap,rfl,-,-⟩:=hd;have hx:∃ p,x = .pointer p:=by
  cases L with
  | nil => exact ⟨_,h2⟩
  | cons e r => obtain ⟨M,d,u,hx,-⟩:=h2; exact ⟨_,hx⟩
 obtain ⟨p,rfl⟩:=hx;generalize (catR L).length = s at *;clear h1 h2 ht hl hlen;go_enter Tryz.func49,Tryz.ntmps49;go_wp2_with fail;refine (HU.out).mono ?_; rintro r w1 ⟨rfl,rfl⟩;go_wp2_with fail;go_end0;exact ⟨rfl,HM.out.1,HM.out.2⟩
set_option maxRecDepth 100000
open Go.RowKit
set_option linter.unusedVariables false
theorem zqxx (w:World) (N:Nat) (L:List (List Int)) (x:Nat) (hx:x < 18446744073709551616) (h:OutAt w N L) (hl:(catR (encU x :: L)).length ≤ 2000000) :
  Calls Tryz.prog 17 #[.pointer (some ⟨N,0,none⟩),.int .u64 x] w (PutP w N L (encU x)):=by
 have HC:=zh (zquc x w hx);have HP:=zh (fun d w1 (hb:Below w.heap.size w w1) (hd:Ints .u8 w1 d (encU x)) (ht:Typed 5 w1 d) => zqhb w1 N L d (encU x) (h.below hb) hd ht (by simp [encU]) hl)
 clear h;generalize encU x = e at *;go_enter Tryz.func17,Tryz.ntmps17;go_wp2_with fail;refine (HC.out).mono ?_; intro r w1 hr;obtain ⟨d,rfl,k1,k2,k3⟩:=hr.ints;have HQ:=zh (HP.out d w1 k3 k1 k2);have HB:=zh k3;obtain ⟨pa,pc,rfl,-,-⟩:=k1;clear k2 k3 hr;go_wp2_with fail;refine (HQ.out).mono ?_; rintro r w2 ⟨rfl,h1,h2⟩;go_wp2_with fail;go_end0;exact ⟨rfl,h1,zqaf (zqah HB.out (some N)) h2⟩
theorem zqxw (w:World) (N:Nat) (L:List (List Int)) (x:Int) (h0:-9223372036854775808 ≤ x) (h1:x ≤ 9223372036854775807) (h:OutAt w N L) (hl:(catR (encI x :: L)).length ≤ 2000000) :
  Calls Tryz.prog 18 #[.pointer (some ⟨N,0,none⟩),.int .i64 x] w (PutP w N L (encI x)):=by
 have HC:=zh (zq1p x w h0 h1);have HP:=zh (fun d w1 (hb:Below w.heap.size w w1) (hd:Ints .u8 w1 d (encI x)) (ht:Typed 5 w1 d) => zqhb w1 N L d (encI x) (h.below hb) hd ht (by unfold encI; split <;> simp) hl)
 clear h;generalize encI x = e at *;go_enter Tryz.func18,Tryz.ntmps18;go_wp2_with fail;refine (HC.out).mono ?_; intro r w1 hr;obtain ⟨d,rfl,k1,k2,k3⟩:=hr.ints;have HQ:=zh (HP.out d w1 k3 k1 k2);have HB:=zh k3;obtain ⟨pa,pc,rfl,-,-⟩:=k1;clear k2 k3 hr;go_wp2_with fail;refine (HQ.out).mono ?_; rintro r w2 ⟨rfl,h1,h2⟩;go_wp2_with fail;go_end0;exact ⟨rfl,h1,zqaf (zqah HB.out (some N)) h2⟩
theorem zqxv (w:World) (N:Nat) (L:List (List Int)) (x k:Nat) (hx:W64 x) (hk:keyI x = (k:Int)) (h:OutAt w N L) (hl:(catR (encF k :: L)).length ≤ 2000000) :
  Calls Tryz.prog 21 #[.pointer (some ⟨N,0,none⟩),.float .f64 x] w (PutP w N L (encF k)):=by
 have HC:=zh (zq1o x k w hx hk);have HP:=zh (fun d w1 (hb:Below w.heap.size w w1) (hd:Ints .u8 w1 d (encF k)) (ht:Typed 5 w1 d) => zqhb w1 N L d (encF k) (h.below hb) hd ht (by unfold encF; rw [zqat]; decide) hl)
 clear h;generalize encF k = e at *;go_enter Tryz.func21,Tryz.ntmps21;go_wp2_with fail;refine (HC.out).mono ?_; intro r w1 hr;obtain ⟨d,rfl,k1,k2,k3⟩:=hr.ints;have HQ:=zh (HP.out d w1 k3 k1 k2);have HB:=zh k3;obtain ⟨pa,pc,rfl,-,-⟩:=k1;clear k2 k3 hr;go_wp2_with fail;refine (HQ.out).mono ?_; rintro r w2 ⟨rfl,h1,h2⟩;go_wp2_with fail;go_end0;exact ⟨rfl,h1,zqaf (zqah HB.out (some N)) h2⟩
set_option maxHeartbeats 1000000 in
theorem zqxu (w:World) (N:Nat) (L:List (List Int)) (v2:Value) (l:List Int) (hv:Ints .u8 w v2 l) (hn:l.length ≤ 1048576) (h:OutAt w N L) (hl:(catR ((encU l.length ++ l) :: L)).length ≤ 2000000) :
  Calls Tryz.prog 20 #[.pointer (some ⟨N,0,none⟩),v2] w (PutP w N L (encU l.length ++ l)):=by
 obtain ⟨i0,hi,hz0,hz1,hz2⟩:=info_parts Tryz.infoU8;have HC:=zh (zquc l.length w (by omega))
 have HP:=zh (fun d w1 (hb:Below w.heap.size w w1) (hd:Ints .u8 w1 d (encU l.length ++ l)) (ht:Typed 5 w1 d) => zqhb w1 N L d (encU l.length ++ l) (h.below hb) hd ht (by simp [encU]) hl)
 have HV:=zh (fun w1 (hb:Below w.heap.size w w1) => hv.below hb)
 have hel:=(zqa3 (x:=l.length) (by omega)).2
 obtain ⟨a,cap,rfl,-,-⟩:=hv;have i1:IntKind.u64.wrap (l.length:Int) = (l.length:Int):=by rw [IntKind.wrap_u64]; omega
 clear h;generalize encU l.length = e at *;go_enter Tryz.func20,Tryz.ntmps20;go_wp2_with fail;refine (HC.out).mono ?_; intro r w1 hr;obtain ⟨⟨d,rfl,ho⟩,hb1⟩:=hr;have HO:=zh (And.intro ho hb1);obtain ⟨pa,pl,pc,rfl⟩:=zqac ho;clear ho hb1;go_wp2_with (at_builtin; refine zqaq _ (by rfl) _ _ 36 rfl w.heap.size 5 i0 (.int .u8 0) 1 Tryz.underlying36 hi hz0 hz1 hz2 rfl .u8 _ _ e l rfl rfl HO.out.1 (HV.out _ HO.out.2) (by unfold maxLen; omega) (by omega) HO.out.2.size ?_; intro v' w2 hown hgrow; have HQ:=zh (And.intro hown (HO.out.2.grown hgrow HO.out.2.size (fun k hk => (HO.out.1.lt k hk).1))); obtain ⟨pv',lv',cv',rfl⟩:=zqac hown; clear hown hgrow)
 refine (HP.out _ _ HQ.out.2 (Ints.own HQ.out.1) (Typed.own HQ.out.1)).mono ?_; rintro r w3 ⟨rfl,h1,h2⟩;go_wp2_with fail;go_end0;exact ⟨rfl,h1,zqaf (zqah HQ.out.2 (some N)) h2⟩
set_option maxRecDepth 100000
open Go.RowKit
set_option linter.unusedVariables false
def RowAt (w:World) (G:Nat) (zs:List Int):Prop:=w.heap[G]? = some (.cells (zs.map (Value.int .u8)).toArray 5 (0,0))
theorem RowAt.own {w:World} {B G:Nat} {zs:List Int} (h:RowAt w G zs) (hB:B ≤ G) (hl:zs.length ≤ maxLen):BOwn w B (.slice (some ⟨G,0,none⟩) zs.length zs.length) zs :=
 ⟨by simp,.inr ⟨G,zs.length,_,rfl,hB,h,Nat.le_refl _,hl,by simp,by rw [Nat.mul_one]; exact List.take_of_length_le (by simp)⟩⟩
theorem zqm5 (w:World) (G:Nat) (cs:Array Value):w.grownBy (w.setRow G cs) (some G) :=
 ⟨rfl,rfl,rfl,by simp [World.setRow],fun k _ hn => by
  have hk:G ≠ k:=fun e => hn (by rw [e])
  simp [World.setRow,Array.getElem?_modify,hk]⟩
theorem zqsp {w:World} {G o:Nat} {zs e:List Int} {a:Option Addr} {c:Nat} (hr:RowAt w G zs) (ho:o + e.length ≤ zs.length) (hs:Ints .u8 w (.slice a e.length c) e) :
  ∃ W' x,(∀ ty,(Builtin.copy_ #[36,36] ty #[.slice (if zs.length = o then some ⟨G,0,none⟩ else (some (⟨G,0,none⟩:Addr)).map (·.add (o * 1))) (zs.length - o) (zs.length - o),.slice a e.length c]).run Tryz.prog w = .ok x W') ∧
   RowAt W' G (zs.take o ++ e ++ zs.drop (o + e.length)) ∧ w.grownBy W' (some G):=by
 obtain ⟨i0,hi,hz0,hz1,hz2⟩:=info_parts Tryz.infoU8;have hsz:(Tryz.prog.info? 5).map (·.size) = some 1:=by rw [hi]; simp [hz1]
 by_cases h0:e.length = 0
 ·have h1:e = []:=List.length_eq_zero_iff.1 h0;refine ⟨w,_,fun ty => run_copy_none (P:=Tryz.prog) w _ _ ty 5 _ a _ _ _ _ Tryz.underlying36 hsz (by rw [h0]; exact Nat.zero_min _),?_,World.grownBy.refl w _⟩
  subst h1;simpa using hr
 ·obtain ⟨a',cap',e1,hc,ha⟩:=hs;simp only [Value.slice.injEq,true_and] at e1;obtain ⟨rfl,rfl⟩:=e1;rcases ha with h' | ⟨b,off,rfl,hb,hcell⟩
  ·subst h'; simp at h0
  have hadd:(if zs.length = o then some (⟨G,0,none⟩:Addr) else (some (⟨G,0,none⟩:Addr)).map (·.add (o * 1))) = some ⟨G,o,none⟩:=by
   rw [if_neg (by omega),Nat.mul_one]
   by_cases k0:o = 0
   ·subst k0; simp [Addr.add]
   ·simp [Addr.add,k0]
  rw [hadd];have hrun:=fun ty => run_copy_row (P:=Tryz.prog) w 36 36 ty 5 G o (zs.length - o) (zs.length - o) ⟨b,off,none⟩ e.length c _ _ (e.map (Value.int .u8)) Tryz.underlying36 hsz hr
   (by rw [List.length_map]; exact (Nat.min_eq_left (by omega)).symm)
   (fun j v hj => by
    rw [List.getElem?_map] at hj;obtain ⟨x,hx,rfl⟩:=Option.map_eq_some_iff.1 hj;have hl:=(List.getElem?_eq_some_iff.1 hx).1;have hh:=hcell j hl;have e1:e.getD j 0 = x:=by simp [List.getD,hx]
    rw [e1] at hh
    by_cases h0:j = 0
    ·subst h0; simpa [Addr.add] using hh
    ·simpa [Addr.add,h0] using hh)
   (by simp; omega)
   (fun v hv => by obtain ⟨x,_,rfl⟩:=List.mem_map.1 hv; rfl)
  refine ⟨_,_,hrun,?_,zqm5 w G _⟩;unfold RowAt;rw [setRow_heap w G _ _ _ _ hr];simp [List.map_take,List.map_drop]
def Done (w:World) (l:List Int) (G:Nat) (pv:Value) (R:List (List Int)) (wr:World):Prop:=∃ tail,l = catR R ++ tail ∧ Chain w pv R ∧ RowAt wr G (List.replicate (catR R).length 0 ++ tail) ∧ Below w.heap.size w wr
theorem zqyj (a:Nat) (tail e:List Int):(List.replicate (a + e.length) (0:Int) ++ tail).take a ++ e ++ (List.replicate (a + e.length) (0:Int) ++ tail).drop (a + e.length) = List.replicate a 0 ++ (e ++ tail):=by
 rw [List.take_append_of_le_length (by simp),List.drop_append_of_le_length (by simp),List.take_replicate,List.drop_replicate,Nat.min_eq_left (by omega),Nat.sub_self]
 simp
set_option maxHeartbeats 4000000 in
theorem zqsi (w:World) (N:Nat) (L:List (List Int)) (h:OutAt w N L) (hl:(catR L).length ≤ 2000000) :
  Calls Tryz.prog 22 #[.pointer (some ⟨N,0,none⟩)] w (BytesP w (catR L)):=by
 obtain ⟨i0,hi,hz0,hz1,hz2⟩:=info_parts Tryz.infoU8;have HU:=zh (zqjq w N L h);obtain ⟨x,h1,h2⟩:=h;have hN:=h1.lt;have HL:=zh hl;have hmk:=run_make (P:=Tryz.prog) w 36 5 i0 (.int .u8 0) Tryz.underlying36 hi hz0 .i64 .i64 (catR L).length (catR L).length (by omega) (Int.le_refl _) (by rw [hz2]; omega) (by omega)
 have hrow:RowAt (w.alloc (.cells (madeCells (Value.int .u8 0).cells (((catR L).length:Int).toNat * i0.size)) 5)) w.heap.size (List.replicate (catR L).length 0):=by
  unfold RowAt;rw [heap_alloc_new]
  congr 2
  apply Array.toList_inj.1;rw [hz1,Nat.mul_one,Int.toNat_natCast,show (Value.int .u8 0).cells = #[Value.int .u8 0] from rfl,toList_madeCells_one];simp
 have hb1:=zqab w (.cells (madeCells (Value.int .u8 0).cells (((catR L).length:Int).toNat * i0.size)) 5);simp only [Int.toNat_natCast,hz1,Nat.mul_one,show (Value.int .u8 0).cells = #[Value.int .u8 0] from rfl] at hmk hrow hb1;have h3:=(h1.below hb1).reads;have HD:=zh (show Done w (catR L) w.heap.size x L _ from ⟨[],by simp,h2,by simpa using hrow,hb1⟩)
 obtain ⟨r0,r1,r2⟩:=h1.reads;obtain ⟨s0,s1,s2⟩:=h3;have hx:∃ p,x = .pointer p:=by
  cases L with
  | nil => exact ⟨_,h2⟩
  | cons e r => obtain ⟨M,d,u,hx,-⟩:=h2; exact ⟨_,hx⟩
 obtain ⟨p,rfl⟩:=hx;clear h1 h2 hrow hb1;go_enter Tryz.func22,Tryz.ntmps22;go_wp2_with fail;refine (HU.out).mono ?_; rintro r w1 ⟨rfl,rfl⟩;go_wp2_with fail;have HG:=zh (show w.heap.size < w.heap.size + 1 by omega)
 clear hmk s0 s1 s2;go_loopw [4,5] (fun ev pv wr => ∃ R,ev = .int .i64 ((catR R).length:Nat) ∧ (∃ p,pv = .pointer p) ∧ Hid (Done w (catR L) w.heap.size pv R wr)) (fun ev _ _ => (intOf ev).toNat)
 case atStart => exact ⟨L,rfl,⟨_,rfl⟩,HD⟩
 case round =>
  obtain ⟨R,rfl,⟨p2,rfl⟩,hD⟩:=hrel;obtain ⟨tail,t1,t2,t3,t4⟩:=hD.out;have hlen:(catR R).length ≤ 2000000:=by have:=HL.out; rw [t1] at this; simp at this; omega
  cases R with
  | nil =>
   have hp:Value.pointer p2 = .pointer none:=t2;cases hp
   have HE:=zh (show BytesP w (catR L) (.returned (.slice (some ⟨w.heap.size,0,none⟩) (catR L).length (catR L).length)) wr from ⟨⟨_,rfl,by
    rw [t1]; exact RowAt.own (by simpa [catR] using t3) (Nat.le_refl _) (by have:=HL.out; rw [t1] at this; unfold maxLen; simp [catR] at this ⊢; omega)⟩,t4⟩)
   clear t1 t2 t3 t4 hD HD;go_wp2_with fail;go_ret;exact HE.out
  | cons e r =>
   obtain ⟨M,d,u,hp,hM,he,hd,ht,hc⟩:=t2;cases hp
   have hx:∃ p3,u = .pointer p3:=by
    cases r with
    | nil => exact ⟨_,hc⟩
    | cons e2 r2 => obtain ⟨_,_,_,hx,-⟩:=hc; exact ⟨_,hx⟩
   obtain ⟨p3,rfl⟩:=hx;have hds:=(hd.below t4);have hMs:M < w.heap.size:=(Array.getElem?_eq_some_iff.1 hM).1;have hM2:=(t4.block M hMs).trans hM;obtain ⟨a,c,rfl,-,-⟩:=hd;obtain ⟨o,ho⟩:∃ o,(catR r).length = o:=⟨_,rfl⟩
   have hcr:(catR (e :: r)).length = o + e.length:=by simp [catR,ho]
   have hT:(catR L).length = o + e.length + tail.length:=by rw [t1,List.length_append,hcr]
   have hcat:catR L = catR r ++ (e ++ tail):=by rw [t1]; simp [catR]
   rw [hcr] at t3;obtain ⟨W',xv,hcp,hrow2,hgr⟩:=zqsp (w:=wr.drew) (G:=w.heap.size) (zs:=List.replicate (o + e.length) 0 ++ tail) (o:=o) (a:=a) (c:=c) (e:=e) t3 (by simp) hds
   rw [zqyj] at hrow2;have hzl:(List.replicate (o + e.length) (0:Int) ++ tail).length = (catR L).length:=by rw [hT]; simp
   rw [hzl] at hcp;have hop:=fun w' => zqm3 (w:=w') (a:=some ⟨w.heap.size,0,none⟩) (cap:=(catR L).length) (l:=(catR L).length) (k:=o) (by omega) size1
   have hbw:Below w.heap.size w W':=t4.drew.grown hgr t4.size (fun k hk => by have e:w.heap.size = k:=Option.some.inj hk; omega)
   have HD2:=zh (show Done w (catR L) w.heap.size (.pointer p3) r W' from ⟨e ++ tail,hcat,hc,by rw [ho]; exact hrow2,hbw⟩)
   have hM3:=(hbw.block M hMs).trans hM;have c0:wr.cell? ⟨M,1,none⟩ = some (.slice a e.length c):=by simp [World.cell?,hM2]
   have c1:wr.drew.cell? ⟨M,1,none⟩ = some (.slice a e.length c):=by simpa using c0
   have c2:W'.cell? ⟨M,0,none⟩ = some (.pointer p3):=by simp [World.cell?,hM3]
   have i1:IntKind.i64.wrap ((o + e.length:Nat) - (e.length:Int)) = (o:Nat):=by rw [IntWalk.i64_in _ (by omega)]; omega
   have HM:=zh (And.intro he hcr);rw [hcr] at hlen ⊢;generalize (catR L).length = T at *;have HO:=zh (show Value.int .i64 (o:Int) = .int .i64 ((catR r).length:Nat) by rw [ho])
   clear ho;generalize (if T = o then some (⟨w.heap.size,0,none⟩:Addr) else (some (⟨w.heap.size,0,none⟩:Addr)).map (·.add (o * 1))) = q at *
   clear hcat hc hrow2 hgr hds hM hM2 hM3 t1 t3 hD HD hcr hzl ht hT;simp only [Int.natCast_add] at i1;go_upto_region 9 with fail;go_region;go_wp2_with fail;go_roundw
   case rel => exact ⟨r,HO.out,⟨_,rfl⟩,HD2⟩
   case measure => have:=HM.out.1; simp [intOf]; omega
end Go.Proofs.YtafmghloohhaeaaGreatDoor
namespace Go.Proofs.YtafmghloohhaeaaGreatDoor
set_option maxRecDepth 100000
open Go.RowKit
set_option linter.unusedVariables false
theorem zqqv (w:World):Calls Tryz.prog 16 #[] w fun r w' => r = .returned (.pointer (some ⟨w.heap.size,0,none⟩)) ∧ w' = w.alloc (.cells #[.pointer none,.int .i64 0,.bool true] 109):=by
 go_enter Tryz.func16,Tryz.ntmps16;go_wp2_with fail;go_ret;exact ⟨rfl,rfl⟩
theorem zqz8 (w:World):OutAt (w.alloc (.cells #[.pointer none,.int .i64 0,.bool true] 109)) w.heap.size []:=⟨.pointer none,heap_alloc_new w _,rfl⟩
end Go.Proofs.YtafmghloohhaeaaGreatDoor
namespace Go.Proofs.YtafmghloohhaeaaGreatDoor
set_option maxRecDepth 100000
open Go.RowKit
set_option linter.unusedVariables false
def OutB (w:World) (N:Nat) (bs:List Int):Prop:=∃ L,OutAt w N L ∧ catR L = bs
theorem OutB.below {w w':World} {N:Nat} {bs:List Int} (h:OutB w N bs) (hb:Below w.heap.size w w'):OutB w' N bs:=by
 obtain ⟨L,h1,h2⟩:=h;exact ⟨L,h1.below hb,h2⟩
def PutB (w:World) (N:Nat) (bs:List Int) (r:Ending) (w':World):Prop:=r = .returned (.tuple #[]) ∧ OutB w' N bs ∧ w.grownBy w' (some N)
set_option maxRecDepth 100000
open Go.RowKit
set_option linter.unusedVariables false
set_option maxRecDepth 100000
open Go.RowKit
set_option linter.unusedVariables false
set_option maxRecDepth 100000
open Go.RowKit
set_option linter.unusedVariables false
end Go.Proofs.YtafmghloohhaeaaGreatDoor
