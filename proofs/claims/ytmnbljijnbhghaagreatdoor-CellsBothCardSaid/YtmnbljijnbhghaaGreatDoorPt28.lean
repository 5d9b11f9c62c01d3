/- Contracts that the law leans on: Aggq Aggw Cela Celt Celb Celk. -/
import Derived.BigQuiet
import Derived.Test.YtmnbljijnbhghaaGreatDoorPt02
import Derived.Test.YtmnbljijnbhghaaGreatDoorPt23
import Derived.Test.YtmnbljijnbhghaaGreatDoorPt27
namespace Go.Proofs.YtmnbljijnbhghaaGreatDoor
set_option maxRecDepth 100000
open Go.RowKit
set_option linter.unusedVariables false
theorem OW.len {x:Int} {z:Wh} (h:OW x z) (hx:I64 x):z.sq.length ≤ 4:=by
 refine h.ty.wlen h.wd ?_;rw [h.sq];have h1:x * x = (x.natAbs:Int) * (x.natAbs:Int):=(Int.natAbs_mul_self' x).symm;have h2:(x.natAbs:Int) ≤ 9223372036854775808:=by have:=hx.1; have:=hx.2; omega
 have h3:(x.natAbs:Int) * (x.natAbs:Int) ≤ 9223372036854775808 * 9223372036854775808:=Int.mul_le_mul h2 h2 (by omega) (by decide)
 rw [h1];exact Int.lt_of_le_of_lt h3 (by decide)
theorem OW.w {x:Int} {z:Wh} (h:OW x z) (hx:I64 x) (h0:x ≠ -9223372036854775808):WhW z where
 sum:=by rw [h.sum]; exact hx
 abs:=by rw [h.abs]; have:=hx.1; have:=hx.2; unfold I64; omega
 sq:=h.wd
 len:=by have:=h.len hx; omega
 mn:=by rw [h.mn]; exact hx
 mx:=by rw [h.mx]; exact hx
theorem zqsx (x:Nat):flagN x < 32:=by rcases zqi5 x with h | h | h | h | h <;> omega
theorem OR.w {x:Nat} {z:Re} (h:OR x z) (hx:W64 x):ReW z where
 sum:=h.sum.bt (zqsx x)
 len:=by have:=h.sum.len; omega
 mn:=by rw [h.mn]; exact hx
 mx:=by rw [h.mx]; exact hx
theorem zqtx {S:Sc} {m:Int} {l:List Int}:0 ≤ ofL S m l ∧ ofL S m l ≤ 18446744073709551615:=by
 unfold ofL
 by_cases h:ofE S m l = 0
 ·rw [if_pos h];obtain ⟨h1,h2,h3⟩:=zqz8 h;have hc:=(zqg5 h1).1;have hz:=(zqeb hc).2;have:=zqm3 hz h3 S.ds.length (Nat.le_refl _);omega
 ·rw [if_neg h]; omega
theorem zqpp {S:Sc} {m:Int} {f:Fa} (h:oneE S m f = 0):checkL S = 0 ∧ fitsL S f = 0 ∧ ofE S m f.cs = 0 ∧ ∀ k,k < f.is.length → f.is.getD k 0 ≠ -9223372036854775808:=by
 unfold oneE at h
 split at h
 ·rename_i h1
  split at h
  ·rename_i h2
   split at h
   ·rename_i h3
    split at h
    ·cases h
    ·rename_i h4;exact ⟨h1,h2,h3,fun k hk e => h4 (zqpl hk e)⟩
   ·rename_i h3; exact absurd h h3
  ·rename_i h2; exact absurd h h2
 ·cases h
theorem OC.w {S:Sc} {m:Int} {f:Fa} {c:Ce} (h:OC S m f c) (hf:FaWf f) (h0:oneE S m f = 0):CeW c:=by
 obtain ⟨q1,q2,q3,q4⟩:=zqpp h0;refine ⟨by rw [h.key]; exact zqtx,by rw [h.cnt]; unfold I64; decide,fun x hx => ?_,fun x hx => ?_⟩
 ·obtain ⟨k,hk,rfl⟩:=List.getElem_of_mem hx;have hk2:k < f.is.length:=by rw [← h.li]; exact hk
  rw [← zqaq hk];exact (h.is k hk2).w (zqd4 (P:=I64) hf.i hk2) (q4 k hk2)
 ·obtain ⟨k,hk,rfl⟩:=List.getElem_of_mem hx;have hk2:k < f.ns.length:=by rw [← h.ln]; exact hk
  rw [← zqap hk];exact (h.ns k hk2).w (zqd4 (P:=W64) hf.n hk2)
theorem OC.short {S:Sc} {m:Int} {f:Fa} {c:Ce} (h:OC S m f c) (hf:FaWf f) (h0:oneE S m f = 0):ShortC 20 c:=by
 obtain ⟨q1,q2,q3,q4⟩:=zqpp h0;obtain ⟨-,-,k1,k2⟩:=zqky q1 hf q2;refine ⟨by rw [h.li]; omega,by rw [h.ln]; omega,fun k hk => ?_⟩
 have hk2:k < f.is.length:=by rw [← h.li]; exact hk
 have:=(h.is k hk2).len (zqd4 (P:=I64) hf.i hk2);omega
theorem row4 {w:World} {P:Nat} {T:TypeId} {a b c d:Value} (h:w.heap[P]? = some (.cells #[a,b,c,d] T (0,0))):w.cell? ⟨P,0,none⟩ = some a ∧ w.cell? ⟨P,1,none⟩ = some b ∧ w.cell? ⟨P,2,none⟩ = some c ∧ w.cell? ⟨P,3,none⟩ = some d:=by
 refine ⟨by simp [World.cell?,h],by simp [World.cell?,h],by simp [World.cell?,h],by simp [World.cell?,h]⟩
theorem OC.same {S:Sc} {m:Int} {f:Fa} {c d:Ce} (h:OC S m f c) (k:OC S m f d):sameC c d = true :=
 same_iff.2 {
  key:=by rw [h.key,k.key]
  cnt:=by rw [h.cnt,k.cnt]
  li:=by rw [h.li,k.li]
  ln:=by rw [h.ln,k.ln]
  is:=fun i hi => by
   rw [h.li] at hi;rw [(h.is i hi).same (k.is i hi)];exact zqps _
  ns:=fun i hi => by
   rw [h.ln] at hi;rw [(h.ns i hi).same (k.ns i hi)];exact zqpr _ }
end Go.Proofs.YtmnbljijnbhghaaGreatDoor
namespace Go.Proofs.YtmnbljijnbhghaaGreatDoor
set_option maxRecDepth 100000
open Go.RowKit
set_option linter.unusedVariables false
theorem JC.eq {a b c d:Ce} (h:JC a b c) (k:JC a b d):c = d:=by
 obtain ⟨k1,n1,i1,r1⟩:=c;obtain ⟨k2,n2,i2,r2⟩:=d;have e1:=h.key.trans k.key.symm;have e2:=h.cnt.trans k.cnt.symm;have e3:i1 = i2:=by
  apply List.ext_getElem (h.li.trans k.li.symm);intro j h1 h2;have hj:j < a.is.length:=Nat.lt_of_lt_of_eq h1 h.li;have:=(h.is j hj).same (k.is j hj);simp only at this
  rwa [zqaq h1,zqaq h2] at this
 have e4:r1 = r2:=by
  apply List.ext_getElem (h.ln.trans k.ln.symm);intro j h1 h2;have hj:j < a.ns.length:=Nat.lt_of_lt_of_eq h1 h.ln;have:=(h.ns j hj).same (k.ns j hj);simp only at this
  rwa [zqap h1,zqap h2] at this
 simp only at e1 e2;rw [e1,e2,e3,e4]
theorem zqn2 (n:Nat):∃ l,Wd l ∧ Tidy l ∧ wv l = (n:Int) ∧ ∀ m,n < 4294967296 ^ m → l.length ≤ m:=by
 induction n using Nat.strongRecOn with
 | _ n ih =>
  by_cases h0:n = 0
  ·subst h0;exact ⟨[],fun x hx => by simp at hx,.inl rfl,rfl,fun m _ => by simp⟩
  ·obtain ⟨l,h1,h2,h3,h4⟩:=ih (n / 4294967296) (by omega)
   refine ⟨((n % 4294967296:Nat):Int) :: l,fun x hx => ?_,.inr ?_,?_,fun m hm => ?_⟩
   ·rcases List.mem_cons.1 hx with rfl | hx
    ·omega
    ·exact h1 x hx
   ·rcases h2 with rfl | h2
    ·have h5:n / 4294967296 = 0:=by
      have:wv [] = 0:=rfl;omega
     have e:([((n % 4294967296:Nat):Int)]:List Int).getD (1 - 1) 0 = ((n % 4294967296:Nat):Int):=rfl;rw [show ([((n % 4294967296:Nat):Int)]:List Int).length = 1 from rfl,e];omega
    ·by_cases hl:l.length = 0
     ·rw [List.length_eq_zero_iff] at hl;subst hl;simp at h2
     ·have e:(((n % 4294967296:Nat):Int) :: l).getD ((((n % 4294967296:Nat):Int) :: l).length - 1) 0 = l.getD (l.length - 1) 0:=by
       rw [List.length_cons,Nat.add_sub_cancel];obtain ⟨q,hq⟩:∃ q,l.length = q + 1:=⟨l.length - 1,by omega⟩
       rw [hq,Nat.add_sub_cancel];simp [List.getD]
      rw [e]; exact h2
   ·rw [zqha (by simp)]
    have e:(((n % 4294967296:Nat):Int) :: l).drop 1 = l:=rfl;have e2:(((n % 4294967296:Nat):Int) :: l).getD 0 0 = ((n % 4294967296:Nat):Int):=rfl;rw [e,e2,h3];omega
   ·cases m with
    | zero => simp at hm; omega
    | succ m =>
     have:=h4 m (by rw [Nat.pow_succ] at hm; exact Nat.div_lt_of_lt_mul (by rw [Nat.mul_comm]; exact hm))
     simp; omega
theorem jw_ex {x y:Wh} (hx:WhW x) (hy:WhW y) (h:okW x y = true):∃ z,JW x y z:=by
 unfold okW at h;rw [Bool.and_eq_true] at h;have h1:=zqas (a:=x.sq) hx.sq;have h2:=zqas (a:=y.sq) hy.sq;obtain ⟨l,k1,k2,k3,-⟩:=zqn2 (wv x.sq + wv y.sq).toNat;exact ⟨⟨x.sum + y.sum,x.abs + y.abs,l,min x.mn y.mn,max x.mx y.mx⟩,h.1,h.2,rfl,rfl,k1,k2,by rw [k3]; omega,rfl,rfl⟩
theorem zqub {n m:Nat} (h0:n ≠ 0) (h:bitsZ (n:Int) ≤ 32 * m):n < 4294967296 ^ m:=by
 have h1:=zqhg h0;have h3:(2:Nat) ^ bitsZ (n:Int) ≤ 2 ^ (32 * m):=Nat.pow_le_pow_right (by decide) h
 rw [Nat.pow_mul] at h3;exact Nat.lt_of_lt_of_le h1 h3
theorem jr_ex {x y:Re} (h:rErr x y = 0):∃ z,JR x y z:=by
 unfold rErr at h
 by_cases h1:errN x.sum = 0 ∧ errN y.sum = 0
 ·rw [if_pos h1] at h
  by_cases h2:bitsZ ((readT x.sum + readT y.sum).natAbs:Int) ≤ 2240
  ·obtain ⟨a,k1,k2,k3,k4⟩:=zqn2 (readT x.sum + readT y.sum).natAbs;have hlen:a.length ≤ 70:=by
    apply k4
    by_cases h0:(readT x.sum + readT y.sum).natAbs = 0
    ·rw [h0]; exact Nat.pow_pos (by decide)
    ·exact zqub (m:=70) h0 (by omega)
   exact ⟨⟨encB (readF x.sum ||| readF y.sum) (decide (readT x.sum + readT y.sum < 0)) a,if lessB y.mn x.mn then y.mn else x.mn,if lessB x.mx y.mx then y.mx else x.mx⟩,h1.1,h1.2,h2,⟨a,k1,k2,k3,hlen,rfl⟩,rfl,rfl⟩
  ·rw [if_neg h2] at h; cases h
 ·rw [if_neg h1] at h; cases h
theorem zqi3 {f:Nat → Nat}:∀ n,firstE f n = 0 → ∀ k,k < n → f k = 0
 | n + 1,h,k,hk => by
  unfold firstE at h
  by_cases e:firstE f n = 0
  ·rw [if_pos e] at h
   by_cases q:k = n
   ·subst q; exact h
   ·exact zqi3 n e k (by omega)
  ·rw [if_neg e] at h; exact absurd h e
theorem zqv8 {a b:Ce} (h:errJ a b = 0):(∀ k,k < a.is.length → okW (wg a.is k) (wg b.is k) = true) ∧ ∀ k,k < a.ns.length → rErr (rg a.ns k) (rg b.ns k) = 0:=by
 unfold errJ at h
 by_cases h1:a.key = b.key ∧ a.is.length = b.is.length ∧ a.ns.length = b.ns.length
 ·rw [if_pos h1] at h
  by_cases h2:fitB (a.cnt + b.cnt) = true ∧ ∀ k,k < a.is.length → okW (wg a.is k) (wg b.is k) = true
  ·rw [if_pos h2] at h;exact ⟨h2.2,zqi3 _ h⟩
  ·rw [if_neg h2] at h; cases h
 ·rw [if_neg h1] at h; cases h
theorem jc_ex {a b:Ce} (ha:CeW a) (hb:CeW b) (h:errJ a b = 0):∃ c,JC a b c:=by
 obtain ⟨q1,q2,q3,q4⟩:=zqfp h;obtain ⟨h1,h2⟩:=zqv8 h;have e1:∀ k,∃ z,k < a.is.length → JW (wg a.is k) (wg b.is k) z:=fun k => by
  by_cases hk:k < a.is.length
  ·obtain ⟨z,hz⟩:=jw_ex (ha.wg hk) (hb.wg (by omega)) (h1 k hk)
   exact ⟨z,fun _ => hz⟩
  ·exact ⟨wh0,fun h => absurd h hk⟩
 have e2:∀ k,∃ z,k < a.ns.length → JR (rg a.ns k) (rg b.ns k) z:=fun k => by
  by_cases hk:k < a.ns.length
  ·obtain ⟨z,hz⟩:=jr_ex (h2 k hk);exact ⟨z,fun _ => hz⟩
  ·exact ⟨re0,fun h => absurd h hk⟩
 refine ⟨⟨a.key,a.cnt + b.cnt,(List.range a.is.length).map fun k => Classical.choose (e1 k),(List.range a.ns.length).map fun k => Classical.choose (e2 k)⟩,rfl,rfl,by simp,by simp,fun k hk => ?_,fun k hk => ?_⟩
 ·have e:wg ((List.range a.is.length).map fun k => Classical.choose (e1 k)) k = Classical.choose (e1 k):=by
   rw [zqaq (by simpa using hk)]; simp
  show JW _ _ (wg ((List.range a.is.length).map fun k => Classical.choose (e1 k)) k)
  rw [e]; exact Classical.choose_spec (e1 k) hk
 ·have e:rg ((List.range a.ns.length).map fun k => Classical.choose (e2 k)) k = Classical.choose (e2 k):=by
   rw [zqap (by simpa using hk)]; simp
  show JR _ _ (rg ((List.range a.ns.length).map fun k => Classical.choose (e2 k)) k)
  rw [e]; exact Classical.choose_spec (e2 k) hk
open Classical in
noncomputable def joinC (a b:Ce):Ce:=if h:errJ a b = 0 ∧ ∃ c,JC a b c then Classical.choose h.2 else if errJ a b = 0 then ⟨a.key,0,[],[]⟩ else ce0
theorem zqk6 {a b:Ce} (ha:CeW a) (hb:CeW b) (h:errJ a b = 0):JC a b (joinC a b):=by
 unfold joinC;rw [dif_pos ⟨h,jc_ex ha hb h⟩];exact Classical.choose_spec (jc_ex ha hb h)
theorem zqwr {a b:Ce} (h:errJ a b ≠ 0):joinC a b = ce0:=by
 unfold joinC;rw [dif_neg fun q => h q.1,if_neg h]
theorem zqdd {a b:Ce} (h:errJ a b = 0):(joinC a b).key = a.key:=by
 unfold joinC
 by_cases q:errJ a b = 0 ∧ ∃ c,JC a b c
 ·rw [dif_pos q]; exact (Classical.choose_spec q.2).key
 ·rw [dif_neg q,if_pos h]
theorem zqh6 {a b c:Ce} (h1:errJ a b = 0 → JC a b c) (h2:errJ a b ≠ 0 → c = ce0):c = joinC a b:=by
 by_cases e:errJ a b = 0
 ·unfold joinC;rw [dif_pos ⟨e,c,h1 e⟩];exact (h1 e).eq (Classical.choose_spec (⟨c,h1 e⟩:∃ c,JC a b c))
 ·rw [zqwr e]; exact h2 e
noncomputable def withL:List Ce → Ce → Nat × List Ce
 | [],c => (0,[c])
 | x :: l,c => if x.key < c.key then (if (withL l c).1 = 0 then (0,x :: (withL l c).2) else ((withL l c).1,[])) else if x.key = c.key then (if errJ x c = 0 then (0,joinC x c :: l) else (errJ x c,[])) else (0,c :: x :: l)
noncomputable def foldC:List Ce → List Ce → Nat × List Ce
 | acc,[] => (0,acc)
 | acc,c :: l => if (withL acc c).1 = 0 then foldC (withL acc c).2 l else ((withL acc c).1,[])
def risingC (l:List Ce):Prop:=l.Pairwise fun x y => x.key < y.key
end Go.Proofs.YtmnbljijnbhghaaGreatDoor
namespace Go.Proofs.YtmnbljijnbhghaaGreatDoor
set_option maxRecDepth 100000
open Go.RowKit
set_option linter.unusedVariables false
abbrev zeroK (c:Ce):Ce:=⟨0,c.cnt,c.is,c.ns⟩
structure ShortV (n:Nat) (c:Ce):Prop where
 li:c.is.length ≤ 10
 ln:c.ns.length ≤ 10
 sq:∀ k,k < c.is.length → (wg c.is k).sq.length ≤ 30 ∧ wv (wg c.is k).sq ≤ n * 4294967296 ^ 20
theorem ShortV.c {n:Nat} {c:Ce} (h:ShortV n c):ShortC 30 c:=⟨h.li,h.ln,fun k hk => (h.sq k hk).1⟩
theorem zqm5 {c:Ce} (h:lightC c = true) (hw:CeW c):ShortV 1 c:=by
 obtain ⟨h1,h2,h3,-⟩:=zqeq.1 h;refine ⟨h1,h2,fun k hk => ⟨by have:=h3 k hk; omega,?_⟩⟩
 have h4:=(zqas (hw.wg hk).sq).2;have h5:=Nat.pow_le_pow_right (n:=4294967296) (by decide) (h3 k hk)
 have e1:((4294967296 ^ (wg c.is k).sq.length:Nat):Int) = 4294967296 ^ (wg c.is k).sq.length:=by rw [Int.natCast_pow]; rfl
 have e2:((4294967296 ^ 20:Nat):Int) = 4294967296 ^ 20:=by rw [Int.natCast_pow]; rfl
 have h6:(4294967296:Int) ^ (wg c.is k).sq.length ≤ 4294967296 ^ 20:=by rw [← e1,← e2]; exact Int.ofNat_le.2 h5
 rw [Int.natCast_one,Int.one_mul];exact Int.le_of_lt (Int.lt_of_lt_of_le h4 h6)
theorem ShortV.zero {n:Nat} {c:Ce} (h:ShortV n c):ShortV n (zeroK c):=⟨h.li,h.ln,h.sq⟩
theorem CeW.zero {c:Ce} (h:CeW c):CeW (zeroK c):=⟨by show (0:Int) ≤ 0 ∧ (0:Int) ≤ 18446744073709551615; decide,h.cnt,h.is,h.ns⟩
theorem CeM.zero {w:World} {I N:Value} {c:Ce} (h:CeM w I N c):CeM w I N (zeroK c):=⟨h.i,h.n⟩
theorem JC.shortV {a b c:Ce} {n:Nat} (h:JC a b c) (ha:CeW a) (hb:CeW b) (sa:ShortV n a) (sb:ShortV 1 b) (hi:a.is.length = b.is.length) (hn:n ≤ 1000):ShortV (n + 1) c:=by
 refine ⟨by rw [h.li]; exact sa.li,by rw [h.ln]; exact sa.ln,fun k hk => ?_⟩
 rw [h.li] at hk;have hj:=h.is k hk;have q1:=(sa.sq k hk).2;have q2:=(sb.sq k (by omega)).2
 have e:wv (wg c.is k).sq ≤ ((n + 1:Nat):Int) * 4294967296 ^ 20:=by
  rw [hj.sq,Int.natCast_add,Int.add_mul];exact Int.add_le_add q1 q2
 refine ⟨Nat.le_trans (hj.ty.wlen hj.wd (n:=21) (Int.lt_of_le_of_lt e ?_)) (by decide),e⟩
 have h3:((n + 1:Nat):Int) ≤ 1001:=by omega
 have h4:(0:Int) ≤ 4294967296 ^ 20:=by decide
 exact Int.lt_of_le_of_lt (Int.mul_le_mul_of_nonneg_right h3 h4) (by decide)
theorem zqtb {a b:Ce} {n:Nat} (ha:CeW a) (hb:CeW b) (sa:ShortV n a) (sb:ShortV 1 b) (hn:n ≤ 1000) (e:errJ a b = 0):CeW (joinC a b) ∧ ShortV (n + 1) (joinC a b):=by
 have h:=zqk6 ha hb e;obtain ⟨q1,q2,q3,q4⟩:=zqfp e;have hs:=h.shortV ha hb sa sb q2 hn;exact ⟨h.w ha hb hs.c (by decide) e,hs⟩
def cg (l:List Ce) (i:Nat):Ce:=l.getD i ce0
theorem zqat {l:List Ce} {i:Nat} (h:i < l.length):cg l i = l[i]:=by simp [cg,List.getD,List.getElem?_eq_getElem h]
structure CeAt (w:World) (b o:Nat) (I N:Value) (c:Ce):Prop where
 c0:w.cell? ⟨b,o,none⟩ = some (.int .u64 c.key)
 c1:w.cell? ⟨b,o + 1,none⟩ = some (.int .i64 c.cnt)
 c2:w.cell? ⟨b,o + 2,none⟩ = some I
 c3:w.cell? ⟨b,o + 3,none⟩ = some N
 m:CeM w I N c
theorem CeAt.below {w w':World} {b o:Nat} {I N:Value} {c:Ce} (h:CeAt w b o I N c) (hb:Below w.heap.size w w'):CeAt w' b o I N c :=
 ⟨cell_later hb h.c0,cell_later hb h.c1,cell_later hb h.c2,cell_later hb h.c3,h.m.below hb⟩
def Cells (w:World) (v:Value) (l:List Ce):Prop :=
 ∃ a cap,v = .slice a l.length cap ∧ l.length ≤ cap ∧ l.length ≤ 9223372036854775807 ∧ (l = [] ∨ ∃ b off,a = some ⟨b,off,none⟩ ∧ b < w.heap.size ∧ ∀ i,i < l.length → ∃ I N,CeAt w b (off + i * 4) I N (cg l i))
theorem Cells.below {w w':World} {v:Value} {l:List Ce} (h:Cells w v l) (hb:Below w.heap.size w w'):Cells w' v l:=by
 obtain ⟨a,cap,rfl,h1,h2,h3⟩:=h;refine ⟨a,cap,rfl,h1,h2,h3.imp id ?_⟩;rintro ⟨b,off,rfl,hlt,hc⟩;exact ⟨b,off,rfl,Nat.lt_of_lt_of_le hlt hb.size,fun i hi => by obtain ⟨I,N,h⟩:=hc i hi; exact ⟨I,N,h.below hb⟩⟩
theorem Cells.at {w:World} {a:Option Addr} {n cap:Nat} {l:List Ce} (h:Cells w (.slice a n cap) l) {i:Nat} (hi:i < l.length):∃ b off,a = some ⟨b,off,none⟩ ∧ b < w.heap.size ∧ ∃ I N,CeAt w b (off + i * 4) I N (cg l i):=by
 obtain ⟨a',cap',e,-,-,h3⟩:=h;injection e with e1 e2 e3;subst e1;rcases h3 with h3 | ⟨b,off,rfl,hlt,hc⟩
 ·rw [h3] at hi; cases hi
 ·exact ⟨b,off,rfl,hlt,hc i hi⟩
theorem Cells.at2 {w:World} {a:Option Addr} {n cap:Nat} {l:List Ce} (h:Cells w (.slice a n cap) l) {i j:Nat} (hi:i < l.length) (hj:j < l.length):∃ b off,a = some ⟨b,off,none⟩ ∧ b < w.heap.size ∧ (∃ I N,CeAt w b (off + i * 4) I N (cg l i)) ∧ ∃ I N,CeAt w b (off + j * 4) I N (cg l j):=by
 obtain ⟨b,off,rfl,hlt,h1⟩:=h.at hi;obtain ⟨b2,off2,e,-,h2⟩:=h.at hj;injection e with e; injection e with e1 e2;subst e1 e2;exact ⟨b,off,rfl,hlt,h1,h2⟩
def LsW (l:List Ce):Prop:=∀ c ∈ l,CeW c
theorem LsW.cg {l:List Ce} (h:LsW l) {i:Nat} (hi:i < l.length):CeW (cg l i):=by rw [zqat hi]; exact h _ (List.getElem_mem hi)
def risingB (l:List Ce):Bool:=(List.range (l.length - 1)).all fun i => decide ((cg l i).key < (cg l (i + 1)).key)
theorem zqdq {l:List Ce}:risingB l = true ↔ ∀ i,i + 1 < l.length → (cg l i).key < (cg l (i + 1)).key:=by
 unfold risingB;simp only [List.all_eq_true,List.mem_range,decide_eq_true_eq];exact ⟨fun h i hi => h i (by omega),fun h i hi => h i (by omega)⟩
theorem zqln {l:List Ce} (i:Nat) (hi:i + 1 < l.length) (h:¬ (cg l i).key < (cg l (i + 1)).key):risingB l = false:=by
 cases e:risingB l with
 | false => rfl
 | true => exact absurd (zqdq.1 e i hi) h
set_option maxHeartbeats 2000000 in
theorem zqhq (w:World) (v:Value) (l:List Ce) (h:Cells w v l) :
  Calls Tryz.prog 19 #[v] w fun e w' => e = .returned (.bool (risingB l)) ∧ Below w.heap.size w w':=by
 have HC:=zh h;obtain ⟨a,cap,rfl,h1,hmx,-⟩:=h;have HY:=zh (@zqdq l);have HF:=zh (@zqln l);generalize risingB l = R at *;go_enter Tryz.func19,Tryz.ntmps19;go_wp2_with fail;go_loopw [3] (fun i wr => ∃ k:Nat,1 ≤ k ∧ (k ≤ l.length ∨ k = 1) ∧ i = .int .i64 k ∧ Hid (Below w.heap.size w wr) ∧ Hid (∀ j,j + 1 < k → (cg l j).key < (cg l (j + 1)).key)) (fun i _ => l.length - (intOf i).toNat)
 case atStart => exact ⟨1,Nat.le_refl _,.inr rfl,rfl,zh (Below.refl _ _),zh (fun j hj => by omega)⟩
 case round =>
  obtain ⟨k,hk1,hk,rfl,HB,HJ⟩:=hrel
  by_cases hlk:k < l.length
  ·have hlk':(k:Int) < (l.length:Int):=by omega
   obtain ⟨b,off,rfl,hlt,⟨I,N,hx⟩,I2,N2,hy⟩:=(HC.out.below HB.out).at2 hlk (show k - 1 < l.length by omega)
   have x0:=hx.c0;have y0:=hy.c0;clear hx hy hlt;have ek:((k:Int) - 1).toNat = k - 1:=by omega
   have e1:(k:Int) - 1 = ((k - 1:Nat):Int):=by omega
   have hle:Hid (k + 1 ≤ l.length):=zh (by omega)
   have hkk:=zh hk1;have hc2:(0:Int) ≤ (k:Int) - 1:=by omega
   have hc3:(k:Int) - 1 < (l.length:Int):=by omega
   have hc4:wrap64 ((k:Int) - 1) = (k:Int) - 1:=wrap64_in (by omega) (by omega)
   by_cases hs:(cg l k).key ≤ (cg l (k - 1)).key
   ·have hR:=HF.out (k - 1) (by omega) (by rw [show k - 1 + 1 = k by omega]; omega)
    subst hR;generalize (cg l k).key = ka at *;generalize (cg l (k - 1)).key = kb at *;have hd:decide (ka ≤ kb) = true:=decide_eq_true hs;clear hs;go_wp2_with fail;go_quiet (fail);go_wp2_with fail;go_ret;exact ⟨rfl,zqa8 _ _ HB.out _⟩
   ·have HJ2:=zh (show ∀ j,j + 1 < k + 1 → (cg l j).key < (cg l (j + 1)).key from fun j hj => if e:j = k - 1 then by subst e; rw [show k - 1 + 1 = k by omega]; omega else HJ.out j (by omega))
    generalize (cg l k).key = ka at *;generalize (cg l (k - 1)).key = kb at *;have hd:decide (ka ≤ kb) = false:=decide_eq_false hs;clear hs;go_wp2_with fail;go_quiet (fail);go_wp2_with fail;go_roundw
    case rel => exact ⟨k + 1,by omega,.inl hle.out,by go_num,zh (zqa8 _ _ HB.out _),HJ2⟩
    case measure => simp [intOf]; omega
  ·have hR:R = true:=HY.out.2 fun i hi => HJ.out i (by omega)
   subst hR;go_wp2_with fail;go_ret;exact ⟨rfl,HB.out⟩
def placeC (l:List Ce) (key:Int):Nat:=l.findIdx fun c => decide (c.key = key)
def hasC (l:List Ce) (key:Int):Int:=if placeC l key < l.length then (placeC l key:Nat) else -1
theorem zqyo {l:List Ce} {key:Int} {k:Nat} (hk:k < l.length) (h:(cg l k).key = key) (h0:∀ j,j < k → (cg l j).key ≠ key):hasC l key = k:=by
 have e:placeC l key = k:=by
  unfold placeC;rw [List.findIdx_eq hk];refine ⟨?_,fun j hj => ?_⟩
  ·rw [← zqat hk]; exact decide_eq_true h
  ·rw [← zqat (by omega)]; exact decide_eq_false (h0 j hj)
 unfold hasC;rw [e,if_pos hk]
theorem zqyp {l:List Ce} {key:Int} (h0:∀ j,j < l.length → (cg l j).key ≠ key):hasC l key = -1:=by
 unfold hasC;rw [if_neg];intro h;have e:=@List.findIdx_getElem Ce (fun c:Ce => decide (c.key = key)) l h
 have e2:(l[placeC l key]'h).key = key:=of_decide_eq_true e;exact h0 _ h (by rw [zqat h]; exact e2)
set_option maxHeartbeats 2000000 in
theorem zq0e (w:World) (v:Value) (l:List Ce) (key:Int) (h:Cells w v l) :
  Calls Tryz.prog 57 #[v,.int .u64 key] w fun e w' => e = .returned (.int .i64 (hasC l key)) ∧ w' = w:=by
 have HC:=zh h;obtain ⟨a,cap,rfl,h1,hmx,-⟩:=h;have HY:=zh (fun k => @zqyo l key k)
 have HF:=zh (@zqyp l key);generalize hasC l key = R at *;go_enter Tryz.func57,Tryz.ntmps57;go_wp2_with fail;go_loopw [5] (fun i wr => ∃ k:Nat,k ≤ l.length ∧ i = .int .i64 k ∧ Hid (wr = w) ∧ Hid (∀ j,j < k → (cg l j).key ≠ key)) (fun i _ => l.length - (intOf i).toNat)
 case atStart => exact ⟨0,Nat.zero_le _,rfl,zh rfl,zh (fun j hj => by omega)⟩
 case round =>
  obtain ⟨k,hk,rfl,HW,HJ⟩:=hrel;obtain rfl:=HW.out
  by_cases hlk:k < l.length
  ·have hlk':(k:Int) < (l.length:Int):=by omega
   obtain ⟨b,off,rfl,hlt,I,N,hx⟩:=HC.out.at hlk;have x0:=hx.c0;clear hx hlt;have hle:Hid (k + 1 ≤ l.length):=zh (by omega)
   by_cases hs:(cg l k).key = key
   ·have hR:=HY.out k hlk hs HJ.out;subst hR;rw [hs] at x0;clear hs;go_wp2_with fail;go_ret;exact ⟨rfl,rfl⟩
   ·have HJ2:=zh (show ∀ j,j < k + 1 → (cg l j).key ≠ key from fun j hj => if e:j = k then by subst e; exact hs else HJ.out j (by omega))
    generalize (cg l k).key = ka at *;go_wp2_with fail;go_roundw
    case rel => exact ⟨k + 1,hle.out,by go_num,zh (by trivial),HJ2⟩
    case measure => simp [intOf]; omega
  ·have:k = l.length:=by omega
   subst this;have hR:=HF.out HJ.out;subst hR;go_wp2_with fail;go_ret;exact ⟨rfl,rfl⟩
def lightL (l:List Ce):Bool:=decide (l.length ≤ 60) && (List.range l.length).all fun i => lightC (cg l i)
theorem zqfv {l:List Ce}:lightL l = true ↔ l.length ≤ 60 ∧ ∀ i,i < l.length → lightC (cg l i) = true:=by
 simp [lightL]
theorem zqti {l:List Ce} (h:¬ (l.length ≤ 60 ∧ ∀ i,i < l.length → lightC (cg l i) = true)):lightL l = false:=by
 cases e:lightL l with
 | false => rfl
 | true => exact absurd (zqfv.1 e) h
set_option maxHeartbeats 2000000 in
theorem zqni (w:World) (v:Value) (l:List Ce) (h:Cells w v l) :
  Calls Tryz.prog 11 #[v] w fun e w' => e = .returned (.bool (lightL l)) ∧ Below w.heap.size w w':=by
 have HC:=zh h;have HL:=zh (fun (w1:World) (I N:Value) (c:Ce) (hm:CeM w1 I N c) => zqrk w1 c I N hm)
 obtain ⟨a,cap,rfl,h1,hmx,-⟩:=h;have HY:=zh (@zqfv l);have HF:=zh (@zqti l);generalize lightL l = R at *;go_enter Tryz.func11,Tryz.ntmps11
 by_cases h60:60 < l.length
 ·have hR:=HF.out (fun q => by omega)
  subst hR;go_wp2_with fail;go_ret;exact ⟨rfl,Below.refl _ _⟩
 have H60:=zh h60;go_wp2_with fail;go_loopw [3] (fun i wr => ∃ k:Nat,k ≤ l.length ∧ i = .int .i64 k ∧ Hid (Below w.heap.size w wr) ∧ Hid (∀ j,j < k → lightC (cg l j) = true)) (fun i _ => l.length - (intOf i).toNat)
 case atStart => exact ⟨0,Nat.zero_le _,rfl,zh (Below.refl _ _),zh (fun j hj => by omega)⟩
 case round =>
  obtain ⟨k,hk,rfl,HB,HJ⟩:=hrel
  by_cases hlk:k < l.length
  ·have hlk':(k:Int) < (l.length:Int):=by omega
   obtain ⟨b,off,rfl,hlt,I,N,hx⟩:=(HC.out.below HB.out).at hlk;obtain ⟨x0,x1,x2,x3,hm⟩:=hx;have HM:=zh hm;have hle:Hid (k + 1 ≤ l.length):=zh (by omega)
   have HE:=zh (HF.out);have HJ2:=zh (fun (e:lightC (cg l k) = true) => show ∀ j,j < k + 1 → lightC (cg l j) = true from fun j hj => if e2:j = k then by subst e2; exact e else HJ.out j (by omega))
   have HJ3:=zh (fun (e:lightC (cg l k) = false) => HF.out (fun q => by have:=q.2 k hlk; rw [e] at this; cases this))
   clear hm hlt;generalize cg l k = c at *;go_wp2_with fail;refine (HL.out _ I N c HM.out).mono ?_; rintro e w1 ⟨rfl,hb⟩;have HB1:=zh (zqaa HB.out hb);clear hb x0 x1 x2 x3;cases hC:lightC c with
   | false =>
    have hR:=HJ3.out hC;subst hR;go_wp2_with fail;go_ret;exact ⟨rfl,HB1.out⟩
   | true =>
    have HJ4:=zh (HJ2.out hC);go_wp2_with fail;go_roundw
    case rel => exact ⟨k + 1,hle.out,by go_num,HB1,HJ4⟩
    case measure => simp [intOf]; omega
  ·have:k = l.length:=by omega
   subst this;have hR:R = true:=HY.out.2 ⟨by have:=H60.out; omega,HJ.out⟩
   subst hR;go_wp2_with fail;go_ret;exact ⟨rfl,HB.out⟩
end Go.Proofs.YtmnbljijnbhghaaGreatDoor
namespace Go.Proofs.YtmnbljijnbhghaaGreatDoor
set_option maxRecDepth 100000
open Go.RowKit
set_option linter.unusedVariables false
def Lean4 (T:TypeId):Prop:=T = 85 ∨ T = 90 ∨ T = 27 ∨ T = 5
structure Keeps (B:Nat) (w w':World):Prop where
 b:Below B w w'
 t:∀ (k:Nat) (cs:Array Value) (T:TypeId),w.heap[k]? = some (Obj.cells cs T (0,0)) → Lean4 T → w'.heap[k]? = some (Obj.cells cs T (0,0))
theorem Keeps.refl (B:Nat) (w:World):Keeps B w w:=⟨Below.refl _ _,fun _ _ _ h _ => h⟩
theorem Keeps.trans {B:Nat} {a b c:World} (h:Keeps B a b) (k:Keeps B b c):Keeps B a c:=⟨h.b.trans k.b,fun i cs T h1 h2 => k.t i cs T (h.t i cs T h1 h2) h2⟩
theorem zqag {B:Nat} {w w':World} (hB:B ≤ w.heap.size) (hb:Below w.heap.size w w'):Keeps B w w' :=
 ⟨hb.mono hB,fun k cs T h _ => (hb.block k (Array.getElem?_eq_some_iff.1 h).1).trans h⟩
theorem zqhn {B B' E sz n:Nat} {w w':World} {v:Value} {xs:List Value} (ho:w.ownsRow B' E sz v n xs) (hB:B ≤ B') (hs:B ≤ w.heap.size) (hE:¬ Lean4 E) (hg:w.grownBy w' v.ownBlock):Keeps B w w':=by
 have hne:∀ k,k < w.heap.size → (k < B ∨ ∃ cs T,w.heap[k]? = some (.cells cs T (0,0)) ∧ Lean4 T) → some k ≠ v.ownBlock:=by
  intro k hk h e;rcases ho.2 with ⟨rfl,-⟩ | ⟨g,cap,cur,rfl,h2,h3,-⟩
  ·simp [Value.ownBlock] at e
  ·have e2:k = g:=by simpa [Value.ownBlock] using e
   subst e2;rcases h with h | ⟨cs,T,h4,h5⟩
   ·omega
   ·rw [h3] at h4;injection h4 with h4;injection h4 with _ h6 _;exact hE (h6 ▸ h5)
 exact ⟨⟨hg.os,hg.tape,hg.output,hg.size,fun k hk => hg.block k (by omega) (hne k (by omega) (.inl hk))⟩,fun k cs T h h5 => (hg.block k (Array.getElem?_eq_some_iff.1 h).1 (hne k (Array.getElem?_eq_some_iff.1 h).1 (.inr ⟨cs,T,h,h5⟩))).trans h⟩
theorem zqet {B B' E sz n:Nat} {w w':World} {v:Value} {xs:List Value} (h:w.ownsRow B' E sz v n xs) (hE:Lean4 E) (k:Keeps B w w'):w'.ownsRow B' E sz v n xs:=by
 refine ⟨h.1,h.2.imp id ?_⟩;rintro ⟨g,cap,cur,e,h1,h2,h3⟩;exact ⟨g,cap,cur,e,h1,k.t g cur E h2 hE,h3⟩
def CeS (B:Nat) (w:World) (I N:Value) (c:Ce):Prop:=∀ w',Keeps B w w' → CeM w' I N c
theorem CeS.mem {B:Nat} {w:World} {I N:Value} {c:Ce} (h:CeS B w I N c):CeM w I N c:=h w (Keeps.refl _ _)
theorem CeS.keep {B:Nat} {w w':World} {I N:Value} {c:Ce} (h:CeS B w I N c) (k:Keeps B w w'):CeS B w' I N c:=fun w2 k2 => h w2 (k.trans k2)
theorem zqsf {w:World} {I N:Value} {c:Ce} (h:CeM w I N c):CeS w.heap.size w I N c:=fun _ k => h.below k.b
theorem zqmn {B B':Nat} {w:World} {I N:Value} {c:Ce} (h:CeOwn w B' I N c):CeS B w I N c:=fun w' k => by
 obtain ⟨ps,qs,h1,h2,h3,h4⟩:=h;exact CeOwn.mem (B:=B') ⟨ps,qs,⟨zqet h1.1 (.inl rfl) k,fun p hp => zqet (h1.2 p hp) (.inr (.inr (.inl rfl))) k⟩,⟨zqet h2.1 (.inr (.inl rfl)) k,fun p hp => zqet (h2.2 p hp) (.inr (.inr (.inr rfl))) k⟩,h3,h4⟩
section
variable {P : Program} (w : World)
theorem zqif (base:Nat) (t ty e:TypeId) (i:TypeInfo) (size:Nat) (ht:P.underlying t = some (.slice e)) (hi:P.info? e = some i)
  (v:Value) (n:Nat) (xs:List Value) (hown:w.ownsRow base e size v n xs) (c:Nat):(Builtin.append_ #[t,t] ty #[v,.slice none 0 c]).run P w = .ok v w:=by
 rcases hown.2 with ⟨rfl,rfl⟩ | ⟨g,cap,cur,rfl,_,_,hnc,_⟩
 ·simp [Builtin.append_,run_underlying ht,sizeOf,typeInfo,hi,Builtin.lenOf,Builtin.firstCells]
 ·simp [Builtin.append_,run_underlying ht,sizeOf,typeInfo,hi,Builtin.lenOf,Builtin.firstCells,hnc,storeCells]
def NewsAt (w:World) (v:Value) (m:Nat) (news:List Value):Prop :=
 ∃ a cap,v = .slice a m cap ∧ ((news = [] ∧ m = 0) ∨ ∃ b off,a = some ⟨b,off,none⟩ ∧ ∀ j u,news[j]? = some u → w.cell? ⟨b,off + j,none⟩ = some u)
theorem zqma (base:Nat) (t ty e:TypeId) (i:TypeInfo) (z:Value) (size bytes:Nat) (ht:P.underlying t = some (.slice e)) (hi:P.info? e = some i) (hz:i.zero = some z) (hsize:i.size = size) (hby:i.bytes = bytes) (hzs:z.cells.size = size) (hsz:0 < size)
  (v v2:Value) (n m:Nat) (xs news:List Value) (hown:w.ownsRow base e size v n xs) (hv2:NewsAt w v2 m news) (hl:news.length = m * size) (one:∀ u ∈ news,u.oneCell' = true) (h63:n + m ≤ maxLen) (hbytes:(n + m) * bytes ≤ 140737488355328) (hbase:base ≤ w.heap.size) :
  ∃ v' w',(Builtin.append_ #[t,t] ty #[v,v2]).run P w = .ok v' w' ∧ w'.ownsRow base e size v' (n + m) (xs ++ news) ∧ w.grownBy w' v.ownBlock:=by
 obtain ⟨a,cap,rfl,ha⟩:=hv2;cases a with
 | none =>
  have hn:news = [] ∧ m = 0:=by
   rcases ha with h | ⟨b,off,h,_⟩
   ·exact h
   ·cases h
  obtain ⟨rfl,rfl⟩:=hn;exact ⟨v,w,zqif w base t ty e i size ht hi v _ _ hown cap,by simpa using hown,World.grownBy.refl w _⟩
 | some ad =>
  have hnews:∀ j u,news[j]? = some u → w.cell? (ad.add j) = some u:=fun j u hj => by
   rcases ha with ⟨h,-⟩ | ⟨b,off,h,hcell⟩
   ·subst h; simp at hj
   ·simp only [Option.some.injEq] at h;subst h;have hh:=hcell j u hj
    by_cases h0:j = 0
    ·subst h0; simpa [Addr.add] using hh
    ·simpa [Addr.add,h0] using hh
  obtain ⟨v',w',hrun,r1,r2,_⟩:=run_append_own (P:=P) w base t ty e i z size bytes ht hi hz hsize hby hzs hsz v n xs hown ad m cap news hl hnews one h63 hbytes hbase;exact ⟨v',w',hrun,r1,r2⟩
theorem zqbd {ops:Array Oper} {rest:List Oper} {o:Oper} {a:Act} {Q:Exit → Act → World → Prop} (hw:Region.wanted o (yielded ops a.tmps) = true) (s x:Operand) (t:TypeId)
  (ho:o.op = .call { callee:=.builtin .append,args:=#[s,x],argTypes:=#[t,t] })
  (base:Nat) (e:TypeId) (i:TypeInfo) (z:Value) (size bytes:Nat) (ht:P.underlying t = some (.slice e)) (hi:P.info? e = some i) (hz:i.zero = some z) (hsize:i.size = size) (hby:i.bytes = bytes) (hzs:z.cells.size = size) (hsz:0 < size)
  (v v2:Value) (n m:Nat) (xs news:List Value) (hs:a.eval s = v) (hx:a.eval x = v2) (hown:w.ownsRow base e size v n xs) (hv2:NewsAt w v2 m news) (hl:news.length = m * size) (one:∀ u ∈ news,u.oneCell' = true) (h63:n + m ≤ maxLen) (hbytes:(n + m) * bytes ≤ 140737488355328) (hbase:base ≤ w.heap.size)
  (h:∀ v' w',w'.ownsRow base e size v' (n + m) (xs ++ news) → w.grownBy w' v.ownBlock → wpList P ops Q rest (a.put o.dst v') w'):wpList P ops Q (o :: rest) a w :=
 BigFrame.wpList_want hw fun _ hK => by
  obtain ⟨v',w',hrun,r1,r2⟩:=zqma (P:=P) w base t o.type e i z size bytes ht hi hz hsize hby hzs hsz v v2 n m xs news hown hv2 hl one h63 hbytes hbase;unfold Oper.wp;simp [execOp,ho,resolve,invoke,builtin,hs,hx,hrun,Result.andThen];exact hK _ _ (h v' w' r1 r2)
end
theorem Wholes.rows {w:World} {v:Value} {l:List Wh} (h:Wholes w v l):∃ ps:List (Value × Wh),ps.map Prod.snd = l ∧ (∀ p ∈ ps,Ints .u32 w p.1 p.2.sq) ∧ NewsAt w v ps.length (cellsW ps):=by
 obtain ⟨a,cap,rfl,h1,h2,h3⟩:=h;rcases h3 with rfl | ⟨b,off,rfl,hlt,hc⟩
 ·exact ⟨[],rfl,(fun p hp => by cases hp),a,cap,rfl,.inl ⟨rfl,rfl⟩⟩
 ·have hex:∀ i,∃ q:Value,i < l.length → WhAt w b (off + i * 5) q (wg l i):=fun i => by
   by_cases hi:i < l.length
   ·obtain ⟨q,hq⟩:=hc i hi;exact ⟨q,fun _ => hq⟩
   ·exact ⟨.bool false,fun q => absurd q hi⟩
  let ps:List (Value × Wh):=(List.range l.length).map fun i => (Classical.choose (hex i),wg l i)
  have hlen:ps.length = l.length:=by simp [ps]
  have hget:∀ i (hi:i < ps.length),ps[i] = (Classical.choose (hex i),wg l i):=fun i hi => by simp [ps]
  have hat:∀ i (hi:i < ps.length),WhAt w b (off + i * 5) ps[i].1 ps[i].2:=fun i hi => by
   rw [hget i hi];exact Classical.choose_spec (hex i) (by omega)
  refine ⟨ps,?_,fun p hp => ?_,some ⟨b,off,none⟩,cap,by rw [hlen],.inr ⟨b,off,rfl,fun j u hu => ?_⟩⟩
  ·apply List.ext_getElem (by simpa using hlen)
   intro i h1 h2;rw [List.getElem_map,hget i (by simpa using h1)]
   exact zqaq h2
  ·obtain ⟨i,hi,rfl⟩:=List.getElem_of_mem hp;exact (hat i hi).s
  ·have hj:j < ps.length * 5:=by rw [← zqfn]; exact (List.getElem?_eq_some_iff.1 hu).1
   have hi:j / 5 < ps.length:=by omega
   have e:j = j / 5 * 5 + j % 5:=by omega
   have hr:j % 5 < 5:=Nat.mod_lt _ (by decide)
   rw [e,zqcp ps (j / 5) (j % 5) hi hr] at hu;have ha:=hat (j / 5) hi;have e2:off + j = off + j / 5 * 5 + j % 5:=by omega
   rw [e2];generalize j % 5 = r at *
   match r,hr with
   | 0,_ => obtain rfl:=Option.some.inj hu; exact ha.c0
   | 1,_ => obtain rfl:=Option.some.inj hu; exact ha.c1
   | 2,_ => obtain rfl:=Option.some.inj hu; exact ha.c2
   | 3,_ => obtain rfl:=Option.some.inj hu; exact ha.c3
   | 4,_ => obtain rfl:=Option.some.inj hu; exact ha.c4
theorem Reals.rows {w:World} {v:Value} {l:List Re} (h:Reals w v l):∃ ps:List (Value × Re),ps.map Prod.snd = l ∧ (∀ p ∈ ps,Ints .u8 w p.1 p.2.sum) ∧ NewsAt w v ps.length (cellsR ps):=by
 obtain ⟨a,cap,rfl,h1,h2,h3⟩:=h;rcases h3 with rfl | ⟨b,off,rfl,hlt,hc⟩
 ·exact ⟨[],rfl,(fun p hp => by cases hp),a,cap,rfl,.inl ⟨rfl,rfl⟩⟩
 ·have hex:∀ i,∃ q:Value,i < l.length → ReAt w b (off + i * 3) q (rg l i):=fun i => by
   by_cases hi:i < l.length
   ·obtain ⟨q,hq⟩:=hc i hi;exact ⟨q,fun _ => hq⟩
   ·exact ⟨.bool false,fun q => absurd q hi⟩
  let ps:List (Value × Re):=(List.range l.length).map fun i => (Classical.choose (hex i),rg l i)
  have hlen:ps.length = l.length:=by simp [ps]
  have hget:∀ i (hi:i < ps.length),ps[i] = (Classical.choose (hex i),rg l i):=fun i hi => by simp [ps]
  have hat:∀ i (hi:i < ps.length),ReAt w b (off + i * 3) ps[i].1 ps[i].2:=fun i hi => by
   rw [hget i hi];exact Classical.choose_spec (hex i) (by omega)
  refine ⟨ps,?_,fun p hp => ?_,some ⟨b,off,none⟩,cap,by rw [hlen],.inr ⟨b,off,rfl,fun j u hu => ?_⟩⟩
  ·apply List.ext_getElem (by simpa using hlen)
   intro i h1 h2;rw [List.getElem_map,hget i (by simpa using h1)]
   exact zqap h2
  ·obtain ⟨i,hi,rfl⟩:=List.getElem_of_mem hp;exact (hat i hi).s
  ·have hj:j < ps.length * 3:=by rw [← zqfm]; exact (List.getElem?_eq_some_iff.1 hu).1
   have hi:j / 3 < ps.length:=by omega
   have e:j = j / 3 * 3 + j % 3:=by omega
   have hr:j % 3 < 3:=Nat.mod_lt _ (by decide)
   rw [e,zqdm ps (j / 3) (j % 3) hi hr] at hu;have ha:=hat (j / 3) hi;have e2:off + j = off + j / 3 * 3 + j % 3:=by omega
   rw [e2];generalize j % 3 = r at *
   match r,hr with
   | 0,_ => obtain rfl:=Option.some.inj hu; exact ha.c0
   | 1,_ => obtain rfl:=Option.some.inj hu; exact ha.c1
   | 2,_ => obtain rfl:=Option.some.inj hu; exact ha.c2
abbrev rowC (p:Value × Value × Ce):List Value:=[.int .u64 p.2.2.key,.int .i64 p.2.2.cnt,p.1,p.2.1]
def cellsC:List (Value × Value × Ce) → List Value
 | [] => []
 | p :: ps => rowC p ++ cellsC ps
theorem zqco:∀ ps,(cellsC ps).length = ps.length * 4
 | [] => rfl
 | p :: ps => by simp [cellsC,zqco ps]; omega
theorem zqdk:∀ ps qs,cellsC (ps ++ qs) = cellsC ps ++ cellsC qs
 | [],qs => by simp [cellsC]
 | p :: ps,qs => by rw [List.cons_append,cellsC,cellsC,zqdk ps qs]; simp
theorem zqcn:∀ (ps:List (Value × Value × Ce)) (i j:Nat),(hi:i < ps.length) → j < 4 → (cellsC ps)[i * 4 + j]? = (rowC ps[i])[j]?
 | p :: ps,0,j,hi,hj => by
  rw [cellsC,List.getElem?_append_left (by simp; omega)]
  simp
 | p :: ps,i + 1,j,hi,hj => by
  have ih:=zqcn ps i j (by simpa using hi) hj
  rw [cellsC,List.getElem?_append_right (by simp; omega)]
  have e:(i + 1) * 4 + j - (rowC p).length = i * 4 + j:=by simp; omega
  rw [e,ih]; rfl
abbrev cellOf (p:Value × Value × Ce):Ce:=p.2.2
structure CsRow (B:Nat) (w:World) (v:Value) (ps:List (Value × Value × Ce)):Prop where
 o:w.ownsRow B 38 4 v ps.length (cellsC ps)
 m:∀ p ∈ ps,CeS B w p.1 p.2.1 p.2.2
theorem CsRow.nil (B:Nat) (w:World):CsRow B w (.slice none 0 0) []:=⟨⟨by simp [cellsC],.inl ⟨rfl,rfl⟩⟩,fun p hp => by cases hp⟩
theorem CsRow.below {B:Nat} {w w':World} {v:Value} {ps:List (Value × Value × Ce)} (h:CsRow B w v ps) (hB:B ≤ w.heap.size) (hb:Below w.heap.size w w'):CsRow B w' v ps:=⟨zqaj h.o hb,fun p hp => (h.m p hp).keep (zqag hB hb)⟩
theorem zqic:¬ Lean4 38:=by unfold Lean4; decide
theorem CsRow.keeps {B:Nat} {w w':World} {v:Value} {ps:List (Value × Value × Ce)} (h:CsRow B w v ps) (hB:B ≤ w.heap.size) (hg:w.grownBy w' v.ownBlock):Keeps B w w':=zqhn h.o (Nat.le_refl _) hB zqic hg
theorem CsRow.push {B:Nat} {w w':World} {v v':Value} {ps qs:List (Value × Value × Ce)} (h:CsRow B w v ps) (hB:B ≤ w.heap.size) (hq:∀ p ∈ qs,CeS B w p.1 p.2.1 p.2.2)
  (ho:w'.ownsRow B 38 4 v' (ps.length + qs.length) (cellsC ps ++ cellsC qs)) (hg:w.grownBy w' v.ownBlock):CsRow B w' v' (ps ++ qs):=by
 have k:=h.keeps hB hg;refine ⟨by rw [zqdk,List.length_append]; exact ho,fun p hp => ?_⟩
 rcases List.mem_append.1 hp with hp | hp
 ·exact (h.m p hp).keep k
 ·exact (hq p hp).keep k
theorem CsRow.any {B:Nat} {w:World} {v:Value} {ps:List (Value × Value × Ce)} (h:CsRow B w v ps):∃ a c,v = .slice a ps.length c:=zqae h.o
theorem zqvv {w:World} {B:Nat} {v:Value} {ps:List (Value × Value × Ce)} (ho:w.ownsRow B 38 4 v ps.length (cellsC ps)) (hm:∀ p ∈ ps,CeM w p.1 p.2.1 p.2.2):Cells w v (ps.map cellOf):=by
 have ho2:=ho;rcases ho.2 with ⟨rfl,h0⟩ | ⟨g,cap,cur,rfl,h2,h3,h4,h5,-⟩
 ·obtain rfl:ps = []:=List.length_eq_zero_iff.1 h0;exact ⟨none,0,rfl,by simp,by simp,.inl rfl⟩
 ·refine ⟨some ⟨g,0,none⟩,cap,by simp,by simpa using h4,by unfold maxLen at h5; simp; omega,.inr ⟨g,0,rfl,(Array.getElem?_eq_some_iff.1 h3).1,fun i hi => ?_⟩⟩
  have hi:i < ps.length:=by simpa using hi
  have hc:=fun j (hj:j < 4) => (World.ownsRow.cellAt ho2 (i * 4 + j) (by omega)).trans (zqcn ps i j hi hj)
  have hx:cg (ps.map cellOf) i = (ps[i]).2.2:=by rw [zqat (by simpa using hi)]; simp
  refine ⟨(ps[i]).1,(ps[i]).2.1,?_⟩;rw [hx,Nat.zero_add];exact ⟨by simpa using hc 0 (by decide),by simpa using hc 1 (by decide),by simpa using hc 2 (by decide),by simpa using hc 3 (by decide),hm _ (List.getElem_mem hi)⟩
theorem CeM.ones {w:World} {I N:Value} {c:Ce} (h:CeM w I N c):I.oneCell' = true ∧ N.oneCell' = true:=by
 obtain ⟨⟨a,k,rfl⟩,b,l,rfl⟩:=h.slices;exact ⟨rfl,rfl⟩
theorem CsRow.cells {B:Nat} {w:World} {v:Value} {ps:List (Value × Value × Ce)} (h:CsRow B w v ps):Cells w v (ps.map cellOf):=zqvv h.o fun p hp => (h.m p hp).mem
theorem Cells.rows {w:World} {v:Value} {l:List Ce} (h:Cells w v l):∃ ps:List (Value × Value × Ce),ps.map cellOf = l ∧ (∀ p ∈ ps,CeM w p.1 p.2.1 p.2.2) ∧
  NewsAt w v ps.length (cellsC ps):=by
 obtain ⟨a,cap,rfl,h1,h2,h3⟩:=h;rcases h3 with rfl | ⟨b,off,rfl,hlt,hc⟩
 ·exact ⟨[],rfl,(fun p hp => by cases hp),a,cap,rfl,.inl ⟨rfl,rfl⟩⟩
 ·have hex:∀ i,∃ q:Value × Value,i < l.length → CeAt w b (off + i * 4) q.1 q.2 (cg l i):=fun i => by
   by_cases hi:i < l.length
   ·obtain ⟨I,N,hq⟩:=hc i hi;exact ⟨(I,N),fun _ => hq⟩
   ·exact ⟨(.bool false,.bool false),fun q => absurd q hi⟩
  let ps:List (Value × Value × Ce):=(List.range l.length).map fun i => ((Classical.choose (hex i)).1,(Classical.choose (hex i)).2,cg l i)
  have hlen:ps.length = l.length:=by simp [ps]
  have hget:∀ i (hi:i < ps.length),ps[i] = ((Classical.choose (hex i)).1,(Classical.choose (hex i)).2,cg l i):=fun i hi => by simp [ps]
  have hat:∀ i (hi:i < ps.length),CeAt w b (off + i * 4) ps[i].1 ps[i].2.1 ps[i].2.2:=fun i hi => by
   rw [hget i hi];exact Classical.choose_spec (hex i) (by omega)
  refine ⟨ps,?_,fun p hp => ?_,some ⟨b,off,none⟩,cap,by rw [hlen],.inr ⟨b,off,rfl,fun j u hu => ?_⟩⟩
  ·apply List.ext_getElem (by simpa using hlen)
   intro i h1 h2;rw [List.getElem_map,hget i (by simpa using h1)]
   exact zqat h2
  ·obtain ⟨i,hi,rfl⟩:=List.getElem_of_mem hp;exact (hat i hi).m
  ·have hj:j < ps.length * 4:=by rw [← zqco]; exact (List.getElem?_eq_some_iff.1 hu).1
   have hi:j / 4 < ps.length:=by omega
   have e:j = j / 4 * 4 + j % 4:=by omega
   have hr:j % 4 < 4:=Nat.mod_lt _ (by decide)
   rw [e,zqcn ps (j / 4) (j % 4) hi hr] at hu;have ha:=hat (j / 4) hi;have e2:off + j = off + j / 4 * 4 + j % 4:=by omega
   rw [e2];generalize j % 4 = r at *
   match r,hr with
   | 0,_ => obtain rfl:=Option.some.inj hu; exact ha.c0
   | 1,_ => obtain rfl:=Option.some.inj hu; exact ha.c1
   | 2,_ => obtain rfl:=Option.some.inj hu; exact ha.c2
   | 3,_ => obtain rfl:=Option.some.inj hu; exact ha.c3
end Go.Proofs.YtmnbljijnbhghaaGreatDoor
