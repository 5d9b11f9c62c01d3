/- Contracts that the law leans on: Facc Keya Keyb Keyc Keyd Keye. -/
import Derived.Test.YtmnbljijnbhghaaGreatDoorPt02
import Derived.Test.YtmnbljijnbhghaaGreatDoorPt09
import Derived.Test.YtmnbljijnbhghaaGreatDoorPt24
namespace Go.Proofs.YtmnbljijnbhghaaGreatDoor
set_option maxRecDepth 100000
open Go.RowKit
set_option linter.unusedVariables false
set_option maxRecDepth 100000
open Go.RowKit
set_option linter.unusedVariables false
structure Fa where
 cs:List Int
 is:List Int
 ns:List Nat
structure FitFa (ms:List Int) (ni nn:Nat) (f:Fa):Prop where
 lc:f.cs.length = ms.length
 li:f.is.length = ni
 ln:f.ns.length = nn
 c:∀ k x,f.cs[k]? = some x → 0 ≤ x ∧ x ≤ ms.getD k 0 ∧ x ≤ 4096
 i:∀ x ∈ f.is,-9223372036854775808 ≤ x ∧ x ≤ 9223372036854775807
 n:∀ x ∈ f.ns,Keyed (keyI x)
set_option maxRecDepth 100000
open Go.RowKit
set_option linter.unusedVariables false
def codAt (ds:List (ByteArray × Int)) (cs:List Int) (k:Nat):Bool:=decide (0 ≤ cs.getD k 0) && decide (cs.getD k 0 < dz ds k)
def codB (ds:List (ByteArray × Int)) (cs:List Int):Bool:=(List.range cs.length).all (codAt ds cs)
theorem zqya {ds:List (ByteArray × Int)} {cs:List Int} {k:Nat} (hk:k < cs.length) (h:codAt ds cs k = false):codB ds cs = false:=List.all_eq_false.2 ⟨k,by simpa using hk,by simp [h]⟩
theorem zqvr {ds:List (ByteArray × Int)} {cs:List Int} (h:∀ j,j < cs.length → codAt ds cs j = true):codB ds cs = true:=List.all_eq_true.2 fun x hx => h x (by simpa using hx)
theorem zqyb {ds:List (ByteArray × Int)} {cs:List Int} (h:codB ds cs = true) {k:Nat} (hk:k < cs.length):0 ≤ cs.getD k 0 ∧ cs.getD k 0 < dz ds k:=by
 have:=List.all_eq_true.1 h k (by simpa using hk)
 simpa [codAt] using this
def fitsL (S:Sc) (f:Fa):Nat:=if f.cs.length ≠ S.ds.length ∨ f.is.length ≠ S.is.length ∨ f.ns.length ≠ S.ns.length then 3 else if codB S.ds f.cs = true then 0 else 2
theorem zqph {S:Sc} {f:Fa} (h:fitsL S f = 0):f.cs.length = S.ds.length ∧ f.is.length = S.is.length ∧ f.ns.length = S.ns.length ∧ codB S.ds f.cs = true:=by
 unfold fitsL at h
 split at h
 ·simp at h
 ·rename_i q
  split at h
  ·rename_i q2;refine ⟨?_,?_,?_,q2⟩ <;> omega
  ·simp at h
def mostsS (S:Sc):List Int:=S.ds.map fun d => d.2 - 1
theorem zqtm {S:Sc} {k:Nat} (hk:k < S.ds.length):(mostsS S).getD k 0 = dz S.ds k - 1:=by
 rw [zqi0 hk];simp [mostsS,List.getD,hk]
theorem zqtn (S:Sc):(mostsS S).length = S.ds.length:=by simp [mostsS]
theorem zqsi {S:Sc} (h:checkL S = 0) {k:Nat} (hk:k < S.ds.length):1 ≤ dz S.ds k ∧ dz S.ds k ≤ 4096:=by
 have:=zqcj (zqiz h).2 hk;exact ⟨this.1,this.2.1⟩
theorem zqok {S:Sc} {f:Fa} (hc:checkL S = 0) (hi:∀ x ∈ f.is,-9223372036854775808 ≤ x ∧ x ≤ 9223372036854775807) (hn:∀ x ∈ f.ns,W64 x) (h:fitsL S f = 0):FitFa (mostsS S) S.is.length S.ns.length f:=by
 obtain ⟨h1,h2,h3,h4⟩:=zqph h;refine ⟨by rw [zqtn]; exact h1,h2,h3,fun k x hx => ?_,hi,fun x hx => zqtg (hn x hx)⟩
 have hk:=(List.getElem?_eq_some_iff.1 hx).1;have hg:=zqyb h4 hk;have e:f.cs.getD k 0 = x:=by simp [List.getD,hx]
 rw [e] at hg;have hs:=zqsi hc (k:=k) (by omega)
 rw [zqtm (by omega)]
 omega
set_option maxRecDepth 100000
open Go.RowKit Go.ChangeShapes Go.WideShapes Go.Deep
set_option linter.unusedVariables false
def Fls (w:World) (v:Value) (xs:List Nat):Prop :=
 ∃ a cap,v = .slice a xs.length cap ∧ xs.length ≤ cap ∧ (xs = [] ∨ ∃ b off,a = some ⟨b,off,none⟩ ∧ b < w.heap.size ∧ ∀ i,i < xs.length → w.cell? ⟨b,off + i,none⟩ = some (.float .f64 (xs.getD i 0)))
theorem Fls.below {w w':World} {v:Value} {xs:List Nat} (h:Fls w v xs) (hb:Below w.heap.size w w'):Fls w' v xs:=by
 obtain ⟨a,cap,rfl,h1,h3⟩:=h;refine ⟨a,cap,rfl,h1,?_⟩;rcases h3 with h3 | ⟨b,off,rfl,hlt,hc⟩
 ·exact .inl h3
 ·exact .inr ⟨b,off,rfl,Nat.lt_of_lt_of_le hlt hb.size,fun i hi => (hb.cell (p:=⟨b,_,none⟩) hlt).trans (hc i hi)⟩
structure Fact3 (w:World) (C I N:Value) (f:Fa):Prop where
 c:Ints .i64 w C f.cs
 i:Ints .i64 w I f.is
 n:Fls w N f.ns
theorem Fact3.below {w w':World} {C I N:Value} {f:Fa} (h:Fact3 w C I N f) (hb:Below w.heap.size w w'):Fact3 w' C I N f:=⟨h.c.below hb,h.i.below hb,h.n.below hb⟩
theorem Fact3.slices {w:World} {C I N:Value} {f:Fa} (h:Fact3 w C I N f):(∃ a c,C = .slice a f.cs.length c) ∧ (∃ a c,I = .slice a f.is.length c) ∧ ∃ a c,N = .slice a f.ns.length c:=by
 obtain ⟨⟨a,c,h1,-⟩,⟨a2,c2,h2,-⟩,a3,c3,h3,-⟩:=h;exact ⟨⟨a,c,h1⟩,⟨a2,c2,h2⟩,a3,c3,h3⟩
structure FaWf (f:Fa):Prop where
 c:∀ x ∈ f.cs,-9223372036854775808 ≤ x ∧ x ≤ 9223372036854775807
 i:∀ x ∈ f.is,-9223372036854775808 ≤ x ∧ x ≤ 9223372036854775807
 n:∀ x ∈ f.ns,W64 x
 l:f.cs.length ≤ 9223372036854775807 ∧ f.is.length ≤ 9223372036854775807 ∧ f.ns.length ≤ 9223372036854775807
abbrev FactV (C I N:Value):Value:=.agg #[C,I,N]
def Facts (w:World) (v:Value) (l:List Fa):Prop :=
 ∃ a cap,v = .slice a l.length cap ∧ l.length ≤ cap ∧ l.length ≤ 9223372036854775807 ∧ (l = [] ∨ ∃ b off,a = some ⟨b,off,none⟩ ∧ b < w.heap.size ∧
  ∀ i (h:i < l.length),∃ C I N,(w.cell? ⟨b,off + i * 3,none⟩ = some C ∧ w.cell? ⟨b,off + i * 3 + 1,none⟩ = some I ∧ w.cell? ⟨b,off + i * 3 + 2,none⟩ = some N) ∧ Fact3 w C I N l[i])
theorem Facts.below {w w':World} {v:Value} {l:List Fa} (h:Facts w v l) (hb:Below w.heap.size w w'):Facts w' v l:=by
 obtain ⟨a,cap,rfl,h1,h2,h3⟩:=h;refine ⟨a,cap,rfl,h1,h2,?_⟩;rcases h3 with h3 | ⟨b,off,rfl,hlt,hc⟩
 ·exact .inl h3
 ·refine .inr ⟨b,off,rfl,Nat.lt_of_lt_of_le hlt hb.size,fun i hi => ?_⟩
  obtain ⟨C,I,N,⟨q0,q1,q2⟩,q3⟩:=hc i hi;exact ⟨C,I,N,⟨(hb.cell (p:=⟨b,_,none⟩) hlt).trans q0,(hb.cell (p:=⟨b,_,none⟩) hlt).trans q1,(hb.cell (p:=⟨b,_,none⟩) hlt).trans q2⟩,q3.below hb⟩
theorem zqnw {H:Type} {enc:TypeId × Value → H} {P:Program} {w:World} {base:Nat} {spare:Nat → Bool} {held:Bool} {fuel:Nat} {t:TypeId} {cs:List Value} {x:DataW H × List MemPlace} {k:FloatKind} (ht:P.underlying t = some (.float k)) (h:DataW.trod enc P w base spare held fuel t cs = some x):∃ n,cs = [.float k n] ∧ (Lit.float k n).wf = true:=by
 cases fuel with
 | zero => simp [DataW.trod] at h
 | succ n =>
  unfold DataW.trod at h;rw [ht] at h
  split at h <;> simp_all
end Go.Proofs.YtmnbljijnbhghaaGreatDoor
namespace Go.Proofs.YtmnbljijnbhghaaGreatDoor
set_option maxRecDepth 100000
open Go.RowKit
set_option linter.unusedVariables false
def keyG (d c:Nat → Int) (p:Nat → Bool):Nat → Int
 | 0 => 0
 | k + 1 => if p k = true then keyG d c p k * d k + c k else keyG d c p k
def numG (d:Nat → Int) (p:Nat → Bool):Nat → Int
 | 0 => 1
 | k + 1 => if p k = true then numG d p k * d k else numG d p k
def tailG (d:Nat → Int) (p:Nat → Bool) (i:Nat):Nat → Int
 | 0 => 1
 | j + 1 => if p (i + j) = true then tailG d p i j * d (i + j) else tailG d p i j
theorem zqlw (d:Nat → Int) (p:Nat → Bool):∀ n,tailG d p 0 n = numG d p n
 | 0 => rfl
 | n + 1 => by
  unfold tailG numG;rw [zqlw d p n,Nat.zero_add]
theorem zqgx {d:Nat → Int} {p:Nat → Bool} {n i:Nat} (hd:∀ k,k < n → 1 ≤ d k):∀ j,i + j ≤ n → 1 ≤ tailG d p i j
 | 0,_ => by simp [tailG]
 | j + 1,h => by
  have h1:=zqgx (p:=p) (i:=i) hd j (by omega)
  have h2:=hd (i + j) (by omega)
  unfold tailG
  split
  ·have:=Int.mul_le_mul h1 h2 (by omega) (by omega)
   omega
  ·exact h1
theorem zqj1 (d:Nat → Int) (p:Nat → Bool) (i:Nat):∀ j,tailG d p i (j + 1) = (if p i = true then d i else 1) * tailG d p (i + 1) j
 | 0 => by
  simp only [tailG,Nat.add_zero]
  split <;> simp
 | j + 1 => by
  rw [tailG,zqj1 d p i j];show _ = (if p i = true then d i else 1) * (if p (i + 1 + j) = true then tailG d p (i + 1) j * d (i + 1 + j) else tailG d p (i + 1) j)
  have e:i + (j + 1) = i + 1 + j:=by omega
  rw [e]
  split
  ·rw [Int.mul_assoc]
  ·rfl
def InG (d c:Nat → Int) (p:Nat → Bool) (n:Nat):Prop:=∀ k,k < n → p k = true → 0 ≤ c k ∧ c k < d k
theorem zqft {d c:Nat → Int} {p:Nat → Bool} {n i:Nat} (hd:∀ k,k < n → 1 ≤ d k) (hc:InG d c p n):∀ j,i + j ≤ n → ∃ r,0 ≤ r ∧ r < tailG d p i j ∧ keyG d c p (i + j) = keyG d c p i * tailG d p i j + r
 | 0,_ => ⟨0,by simp,by simp [tailG],by simp [tailG]⟩
 | j + 1,h => by
  obtain ⟨r,h0,h1,h2⟩:=zqft (i:=i) hd hc j (by omega)
  have hdj:=hd (i + j) (by omega)
  have eT:tailG d p i (j + 1) = if p (i + j) = true then tailG d p i j * d (i + j) else tailG d p i j:=rfl
  have eK:keyG d c p (i + (j + 1)) = if p (i + j) = true then keyG d c p (i + j) * d (i + j) + c (i + j) else keyG d c p (i + j):=rfl
  rw [eT,eK]
  by_cases hp:p (i + j) = true
  ·obtain ⟨c0,c1⟩:=hc (i + j) (by omega) hp
   simp only [if_pos hp];refine ⟨r * d (i + j) + c (i + j),?_,?_,?_⟩
   ·have:=Int.mul_nonneg h0 (show 0 ≤ d (i + j) by omega)
    omega
   ·have h3:(r + 1) * d (i + j) ≤ tailG d p i j * d (i + j):=Int.mul_le_mul_of_nonneg_right (by omega) (by omega)
    rw [Int.add_mul,Int.one_mul] at h3;omega
   ·rw [h2,Int.add_mul,Int.mul_assoc,Int.add_assoc]
  ·simp only [if_neg hp];exact ⟨r,h0,h1,h2⟩
theorem zqjc {d c:Nat → Int} {p:Nat → Bool} {n:Nat} (hd:∀ k,k < n → 1 ≤ d k) (hc:InG d c p n):0 ≤ keyG d c p n ∧ keyG d c p n < numG d p n:=by
 obtain ⟨r,h0,h1,h2⟩:=zqft (i:=0) hd hc n (by omega)
 rw [Nat.zero_add] at h2;rw [zqlw] at h1;have e:keyG d c p 0 = 0:=rfl;rw [e,Int.zero_mul] at h2;omega
theorem zqqj {q A T r:Int} (h:q = A * T + r) (h0:0 ≤ r) (h1:r < T):q / T = A:=by
 have hT:T ≠ 0:=by omega
 rw [h,Int.add_comm,Int.add_mul_ediv_right _ _ hT,Int.ediv_eq_zero_of_lt h0 h1,Int.zero_add]
theorem zqq6 {q A T r:Int} (h:q = A * T + r) (h0:0 ≤ r) (h1:r < T):q % T = r:=by
 rw [h,Int.add_comm,Int.add_mul_emod_self_right];exact Int.emod_eq_of_lt h0 h1
def codG (d:Nat → Int) (p:Nat → Bool) (n:Nat) (q:Int) (i:Nat):Int:=if p i = true then q / tailG d p (i + 1) (n - i - 1) % d i else -1
theorem zq0c {d c:Nat → Int} {p:Nat → Bool} {n:Nat} (hd:∀ k,k < n → 1 ≤ d k) (hc:InG d c p n) {i:Nat} (hi:i < n) (hp:p i = true):codG d p n (keyG d c p n) i = c i:=by
 obtain ⟨r,h0,h1,h2⟩:=zqft (i:=i + 1) hd hc (n - i - 1) (by omega)
 have e:i + 1 + (n - i - 1) = n:=by omega
 rw [e] at h2;unfold codG;rw [if_pos hp,zqqj h2 h0 h1];obtain ⟨c0,c1⟩:=hc i hi hp;have h3:keyG d c p (i + 1) = keyG d c p i * d i + c i:=by
  show (if p i = true then _ else _) = _
  rw [if_pos hp]
 exact zqq6 h3 c0 c1
theorem zqkt {d:Nat → Int} {p:Nat → Bool} {n:Nat} (hd:∀ k,k < n → 1 ≤ d k) (q:Int):InG d (codG d p n q) p n:=fun i hi hp => by
 have:=hd i hi;unfold codG;rw [if_pos hp];exact ⟨Int.emod_nonneg _ (by omega),Int.emod_lt_of_pos _ (by omega)⟩
theorem zqjb {d c c':Nat → Int} {p:Nat → Bool}:∀ {n:Nat},(∀ k,k < n → p k = true → c k = c' k) → keyG d c p n = keyG d c' p n
 | 0,_ => rfl
 | n + 1,h => by
  have ih:=zqjb (d:=d) (n:=n) fun k hk hp => h k (by omega) hp
  unfold keyG
  by_cases hp:p n = true
  ·rw [if_pos hp,if_pos hp,ih,h n (by omega) hp]
  ·rw [if_neg hp,if_neg hp,ih]
def downG (d:Nat → Int) (p p':Nat → Bool) (n:Nat) (q:Int):Int:=keyG d (codG d p n q) p' n
theorem zqz3 {d c:Nat → Int} {p p':Nat → Bool} {n:Nat} (h:InG d c p n) (hs:∀ k,k < n → p' k = true → p k = true):InG d c p' n:=fun k hk hp => h k hk (hs k hk hp)
theorem zqqk {d:Nat → Int} {p p':Nat → Bool} {n:Nat} (hd:∀ k,k < n → 1 ≤ d k) (hs:∀ k,k < n → p' k = true → p k = true) (q:Int):0 ≤ downG d p p' n q ∧ downG d p p' n q < numG d p' n :=
 zqjc hd (zqz3 (zqkt hd q) hs)
theorem zqri {d:Nat → Int} {p:Nat → Bool} {n:Nat} (hd:∀ k,k < n → 1 ≤ d k) (q:Int) {i:Nat} (hi:i < n):q / tailG d p i (n - i) = if p i = true then q / tailG d p (i + 1) (n - (i + 1)) / d i else q / tailG d p (i + 1) (n - (i + 1)):=by
 have ht:=zqgx (p:=p) (i:=i + 1) hd (n - i - 1) (by omega)
 have e:n - i = n - i - 1 + 1:=by omega
 have e2:n - (i + 1) = n - i - 1:=by omega
 rw [e2,e,zqj1]
 split
 ·rw [Int.mul_comm (d i),← Int.ediv_ediv_of_nonneg (by omega)]
  rfl
 ·rw [Int.one_mul]
  rfl
def bitG (m:Int) (k:Nat):Bool:=decide (m / 2 ^ k % 2 = 1)
theorem zqh8 (ds:List (ByteArray × Int)) (m:Int):∀ n,keysL ds m n = numG (dz ds) (bitG m) n
 | 0 => rfl
 | n + 1 => by
  have ih:=zqh8 ds m n;unfold keysL numG bitG;rw [ih]
  by_cases h:m / 2 ^ n % 2 = 1
  ·rw [if_pos h,if_pos (decide_eq_true h)]; rfl
  ·rw [if_neg h,if_neg (by rw [decide_eq_false h]; decide)]; rfl
theorem zqdg {ds:List (ByteArray × Int)} (h:sizB ds = true):∀ k,k < ds.length → 1 ≤ dz ds k:=fun k hk => (zqcj h hk).1
def numE (S:Sc) (m:Int):Nat:=if checkL S = 0 then if m ≤ fullL S.ds then 0 else 11 else 1
theorem zqg5 {S:Sc} {m:Int} (h:numE S m = 0):checkL S = 0 ∧ m ≤ fullL S.ds:=by
 unfold numE at h
 split at h
 ·rename_i h1
  split at h
  ·rename_i h2; exact ⟨h1,h2⟩
  ·cases h
 ·cases h
theorem zqho (w:World) (D I M V:Value) (S:Sc) (m:Int) (h:Sch4 w D I M V S) (hw:SWf S) (m0:0 ≤ m) (m1:m ≤ 4294967295) :
  Calls Tryz.prog 114 #[SchV D I M V,.int .u32 m] w fun e w' => e = .returned (.tuple #[.int .u64 (if numE S m = 0 then keysL S.ds m S.ds.length else 0),.int .i64 (numE S m)]) ∧ Below w.heap.size w w':=by
 have HB0:=zh (zqab w (SchO D I M V));have HX:=zh (zqau w D I M V);have HK:=zh (fun w1 (hb:Below w.heap.size w w1) => zqfu w1 D I M V S m (h.below hb) hw m0 m1)
 have HC:=zh (fun w1 (hb:Below w.heap.size w w1) => zqej w1 D I M V S (h.below hb) hw)
 obtain ⟨⟨a,c,rfl⟩,⟨a2,c2,rfl⟩,⟨a3,c3,rfl⟩,a4,c4,rfl⟩:=h.slices;clear h hw
 by_cases hx:checkL S = 0 ∧ m ≤ fullL S.ds
 ·have hn:numE S m = 0:=by unfold numE; rw [if_pos hx.1,if_pos hx.2]
  rw [if_pos hx,decide_eq_true hx] at HK;rw [hn,if_pos rfl];generalize keysL S.ds m S.ds.length = ky at *;clear hx hn HC;go_enter Tryz.func114,Tryz.ntmps114;go_wp2_with fail;refine (HK.out _ HB0.out).mono ?_; rintro e w1 ⟨rfl,hb⟩;have HB1:=zh (zqaa HB0.out hb);clear hb;go_wp2_with fail;exact bodyPost_ret (v:=.tuple #[.int .u64 ky,.int .i64 0]) (by simp [results,Tryz.results114,go_sem]) rfl ⟨rfl,HB1.out⟩
 ·rw [if_neg hx,decide_eq_false hx] at HK;have hk:checkL S = 0 ∧ numE S m = 11 ∨ ((checkL S:Int) != 0) = true ∧ numE S m = 1:=by
   unfold numE
   by_cases h1:checkL S = 0
   ·rw [if_pos h1,if_neg (fun h2 => hx ⟨h1,h2⟩)]; exact .inl ⟨h1,rfl⟩
   ·rw [if_neg h1]; exact .inr ⟨by simp; omega,rfl⟩
  clear hx;rcases hk with ⟨h1,h2⟩ | ⟨h1,h2⟩
  ·rw [h1] at HC;rw [h2,if_neg (by decide)]
   clear h1 h2;go_enter Tryz.func114,Tryz.ntmps114;go_wp2_with fail;refine (HK.out _ HB0.out).mono ?_; rintro e w1 ⟨rfl,hb⟩;have HB1:=zh (zqaa HB0.out hb);obtain ⟨x0,x1,x2,x3⟩:=(HX.out.below hb).reads;clear hb;go_wp2_with fail;refine (HC.out _ HB1.out).mono ?_; rintro e w2 ⟨rfl,hb⟩;have HB2:=zh (zqaa HB1.out hb);clear hb;go_wp2_with fail;exact bodyPost_ret (v:=.tuple #[.int .u64 0,.int .i64 11]) (by simp [results,Tryz.results114,go_sem]) rfl ⟨rfl,HB2.out⟩
  ·rw [h2,if_neg (by decide)]
   generalize (checkL S:Int) = ck at *;clear h2;go_enter Tryz.func114,Tryz.ntmps114;go_wp2_with fail;refine (HK.out _ HB0.out).mono ?_; rintro e w1 ⟨rfl,hb⟩;have HB1:=zh (zqaa HB0.out hb);obtain ⟨x0,x1,x2,x3⟩:=(HX.out.below hb).reads;clear hb;go_wp2_with fail;refine (HC.out _ HB1.out).mono ?_; rintro e w2 ⟨rfl,hb⟩;have HB2:=zh (zqaa HB1.out hb);clear hb;go_wp2_with fail;exact bodyPost_ret (v:=.tuple #[.int .u64 0,.int .i64 1]) (by simp [results,Tryz.results114,go_sem]) rfl ⟨rfl,HB2.out⟩
theorem zqh9 (w:World) (m:Int) (n:Nat) (hn:n ≤ 31) (m0:0 ≤ m) (m1:m ≤ 4294967295) :
  Calls Tryz.prog 141 #[.int .u32 m,.int .i64 n] w fun e w' => e = .returned (.bool (bitG m n)) ∧ w = w':=by
 have hb1:(bits .and .u32 (m / 2 ^ n) 1 == 1) = bitG m n:=by
  exact zqkq (zqdc m0 m1 n).1 (zqdc m0 m1 n).2
 have HE:=zh hb1;clear hb1;go_enter Tryz.func141,Tryz.ntmps141;go_wp2_with fail;go_ret;exact ⟨congrArg (fun b => Ending.returned (.bool b)) HE.out,rfl⟩
def cz (l:List Int) (k:Nat):Int:=l.getD k 0
theorem zqm3 {ds:List (ByteArray × Int)} {c:Nat → Int} {m:Int} (hz:sizB ds = true) (hc:InG (dz ds) c (bitG m) ds.length):∀ k,k ≤ ds.length → 0 ≤ keyG (dz ds) c (bitG m) k ∧ keyG (dz ds) c (bitG m) k ≤ 1099511627776:=fun k hk => by
 have h1:=zqjc (n:=k) (fun j hj => zqdg hz j (by omega)) (fun j hj hp => hc j (by omega) hp)
 have h2:=zqcs m hz k hk;have h3:=zqc4 hz k hk;rw [← zqh8] at h1;omega
set_option maxHeartbeats 4000000 in
theorem zqk8 (w:World) (D u:Value) (ds:List (ByteArray × Int)) (m:Int) (l:List Int) (h:Dims w D ds) (hu:Ints .i64 w u l) (hn:ds.length ≤ 31) (hl:l.length = ds.length) (hz:sizB ds = true) (hc:InG (dz ds) (cz l) (bitG m) ds.length) (m0:0 ≤ m) (m1:m ≤ 4294967295) :
  Calls Tryz.prog 115 #[D,.int .u32 m,u] w fun e w' => e = .returned (.int .u64 (keyG (dz ds) (cz l) (bitG m) ds.length)) ∧ Below w.heap.size w w':=by
 obtain ⟨a,cap,rfl,h1,h2,h3⟩:=h;obtain ⟨pu,cu,rfl,hcu,-⟩:=id hu;have HU:=zh hu;have HC:=zh h3;have HI:=zh hc;have HKn:=zh (fun k => show keyG (dz ds) (cz l) (bitG m) (k + 1) = if bitG m k = true then keyG (dz ds) (cz l) (bitG m) k * dz ds k + cz l k else keyG (dz ds) (cz l) (bitG m) k from rfl)
 have HR:=zh (zqm3 hz hc);have HZ:=zh (fun k (hk:k < ds.length) => zqcj hz hk)
 have HH:=zh (fun w k hk => zqh9 w m k hk m0 m1)
 rw [hl];clear hu h3 hc hz;go_enter Tryz.func115,Tryz.ntmps115;go_wp2_with fail;go_loopw [7,12] (fun pv i wr => ∃ k:Nat,k ≤ ds.length ∧ i = .int .i64 k ∧ (∃ p:Int,pv = .int .u64 p ∧ 0 ≤ p ∧ p ≤ 1099511627776 ∧ Hid (p = keyG (dz ds) (cz l) (bitG m) k)) ∧ Hid (Below w.heap.size w wr)) (fun _ i _ => ds.length - (intOf i).toNat)
 case atStart => exact ⟨0,Nat.zero_le _,rfl,⟨0,rfl,by decide,by decide,zh rfl⟩,zh (Below.refl _ _)⟩
 case round =>
  obtain ⟨k,hk,rfl,⟨p,rfl,hp0,hp1,HE⟩,HB⟩:=hrel
  by_cases hlk:k < ds.length
  ·rcases HC.out with h3 | ⟨b,off,rfl,hlt,hcell⟩
   ·rw [h3] at hlk; simp at hlk
   obtain ⟨c0,c1⟩:=hcell k hlk;have c0:wr.cell? ⟨b,off + k * 2,none⟩ = _:=(HB.out.cell (p:=⟨b,off + k * 2,none⟩) hlt).trans c0;have c1:wr.cell? ⟨b,off + k * 2 + 1,none⟩ = _:=(HB.out.cell (p:=⟨b,off + k * 2 + 1,none⟩) hlt).trans c1;obtain ⟨b2,o2,hp2,hb2,hc2⟩:=HU.out.cell (i:=k) (by omega)
   subst hp2;have hc2:=cell_later HB.out hc2;have hc2:wr.cell? ⟨b2,o2 + k,none⟩ = some (.int .i64 (cz l k)):=hc2;have HKk:=zh (HKn.out k);have hz:=HZ.out k hlk;have hr:=HR.out (k + 1) (by omega)
   have hI:=HI.out k hlk;have hBs:=HB.out.size;have HB1:=zh (HB.out.alloc hBs (.cells #[.string (dn ds k),.int .i64 (dz ds k)] 68));have HHk:=zh (fun w => HH.out w k (by omega))
   have hle:Hid (k + 1 ≤ ds.length):=zh (by omega)
   rw [← HE.out] at HKk;generalize dn ds k = x at *;generalize dz ds k = z at *;generalize cz l k = y at *;clear hcell
   by_cases hbit:bitG m k = true
   ·obtain ⟨y0,y1⟩:=hI hbit;rw [hbit] at HHk;rw [if_pos hbit] at HKk;have hpz:0 ≤ p * z:=Int.mul_nonneg hp0 (by omega)
    rw [HKk.out] at hr;have i1:IntKind.u64.wrap z = z:=by rw [IntKind.wrap_u64]; omega
    have i2:IntKind.u64.wrap (p * z) = p * z:=by rw [IntKind.wrap_u64]; omega
    have i3:IntKind.u64.wrap y = y:=by rw [IntKind.wrap_u64]; omega
    have i4:IntKind.u64.wrap (p * z + y) = p * z + y:=by rw [IntKind.wrap_u64]; omega
    have HE3:=zh hr;have hb3:=HB.out.size;have hd2:=cell_later (zqab wr (.cells #[.string x,.int .i64 z] 68)) hc2;clear hr hz hpz hI hbit y0 y1;go_wp2_with fail;refine (HHk.out _).mono ?_; rintro e w1 ⟨rfl,rfl⟩;go_upto_region 6 with fail;go_quiet (fail);have HB2:=zh (below_drewN HB1.out nq);go_wp2;go_roundw
    case rel => exact ⟨k + 1,hle.out,by go_num,⟨p * z + y,rfl,HE3.out.1,HE3.out.2,zh HKk.out.symm⟩,HB2⟩
    case measure => simp [intOf]; omega
   ·rw [eq_false_of_ne_true hbit] at HHk;rw [if_neg hbit] at HKk;clear hr hz hI hbit hc2;go_wp2_with fail;refine (HHk.out _).mono ?_; rintro e w1 ⟨rfl,rfl⟩;go_wp2_with fail;go_roundw
    case rel => exact ⟨k + 1,hle.out,by go_num,⟨p,rfl,hp0,hp1,zh HKk.out.symm⟩,HB1⟩
    case measure => simp [intOf]; omega
  ·have:k = ds.length:=by omega
   subst this;have HE2:=zh HE.out;clear HE;go_wp2_with fail;go_ret;rw [HE2.out];exact ⟨rfl,HB.out⟩
abbrev IOwn (w:World) (B:Nat) (v:Value) (l:List Int):Prop:=w.ownsRow B 3 1 v l.length (l.map (Value.int .i64))
def codesL (ds:List (ByteArray × Int)) (m q:Int):List Int:=(List.range ds.length).map (codG (dz ds) (bitG m) ds.length q)
theorem zqek (ds:List (ByteArray × Int)) (m q:Int):(codesL ds m q).length = ds.length:=by simp [codesL]
theorem zqgb (ds:List (ByteArray × Int)) (m q:Int) {k:Nat} (hk:k < ds.length):cz (codesL ds m q) k = codG (dz ds) (bitG m) ds.length q k:=by
 simp [cz,codesL,List.getD,hk]
def IFill (w:World) (g cap:Nat) (out:List Int) (wr:World):Prop:=wr.ownsRow w.heap.size 3 1 (.slice (some ⟨g,0,none⟩) out.length cap) out.length (out.map (Value.int .i64)) ∧ Below w.heap.size w wr ∧ w.heap.size ≤ g ∧ g < wr.heap.size
theorem IFill.set {w wr:World} {g cap:Nat} {out:List Int} (h:IFill w g cap out wr) (j:Nat) (x:Int):IFill w g cap (out.set j x) (wr.setCell ⟨g,j,none⟩ (.int .i64 x)):=by
 refine ⟨?_,h.2.1.setCell h.2.2.1 _,h.2.2.1,by simpa using h.2.2.2⟩
 have:=(World.ownsRow.stored h.1 j (.int .i64 x)).1;simpa [List.map_set] using this
theorem IFill.cells {w wr:World} {g cap:Nat} {out:List Int} (h:IFill w g cap out wr) {j:Nat} (hj:j < out.length):wr.cell? ⟨g,j,none⟩ = some (.int .i64 (out.getD j 0)) ∧ wr.frozen? ⟨g,j,none⟩ = false:=by
 have h1:=h.1.1;rw [List.length_map,Nat.mul_one] at h1;refine ⟨?_,World.ownsRow.frozenAt h.1 j⟩;rw [World.ownsRow.cellAt h.1 j (by omega),List.getElem?_map,List.getElem?_eq_getElem hj,List.getD,List.getElem?_eq_getElem hj]
 rfl
theorem zqqt {w w0:World} {n:Nat} {z:Array Value} (hz:z = #[.int .i64 0]) (hown:w0.ownsRow w.heap.size 3 1 (.slice (some ⟨w.heap.size,0,none⟩) n n) n (madeCells z (n * 1)).toList) (hg:w.grownBy w0 none) :
  IFill w w.heap.size n (List.replicate n 0) w0:=by
 subst hz;have hl:=World.ownsRow.lt hown w.heap.size rfl;refine ⟨?_,(Below.refl _ _).grown hg (Nat.le_refl _) (fun k hk => by cases hk),Nat.le_refl _,hl.2⟩
 rw [toList_madeCells_one] at hown;simpa using hown
def SplitAt (ds:List (ByteArray × Int)) (m q:Int) (k:Nat) (out:List Int) (r:Int):Prop :=
 out.length = ds.length ∧ (∀ j,ds.length ≤ j + k → j < ds.length → out.getD j 0 = codG (dz ds) (bitG m) ds.length q j) ∧ r = q / tailG (dz ds) (bitG m) (ds.length - k) k
theorem SplitAt.start (ds:List (ByteArray × Int)) (m q:Int):SplitAt ds m q 0 (List.replicate ds.length 0) q:=⟨by simp,fun j h1 h2 => by omega,by simp [tailG]⟩
theorem SplitAt.range {ds:List (ByteArray × Int)} {m q:Int} {k:Nat} {out:List Int} {r:Int} (h:SplitAt ds m q k out r) (hz:sizB ds = true) (hk:k ≤ ds.length) (q0:0 ≤ q):0 ≤ r ∧ r ≤ q:=by
 obtain ⟨-,-,rfl⟩:=h;have:=zqgx (p:=bitG m) (i:=ds.length - k) (fun j hj => zqdg hz j hj) k (by omega)
 refine ⟨Int.ediv_nonneg q0 (by omega),Int.ediv_le_self _ q0⟩
theorem SplitAt.step {ds:List (ByteArray × Int)} {m q:Int} {k i:Nat} {out:List Int} {r:Int} (h:SplitAt ds m q k out r) (hz:sizB ds = true) (hi:k + 1 + i = ds.length) :
  (bitG m i = true → SplitAt ds m q (k + 1) ((out.set i (-1)).set i (r % dz ds i)) (r / dz ds i)) ∧ (bitG m i = false → SplitAt ds m q (k + 1) (out.set i (-1)) r):=by
 obtain ⟨h1,h2,h3⟩:=h;have e1:ds.length - k = i + 1:=by omega
 have e2:ds.length - (k + 1) = i:=by omega
 have e3:ds.length - i = k + 1:=by omega
 have e4:ds.length - (i + 1) = k:=by omega
 have e5:ds.length - i - 1 = k:=by omega
 have hs:=zqri (p:=bitG m) (fun j hj => zqdg hz j hj) q (i:=i) (by omega)
 rw [e3,e4] at hs;rw [e1] at h3;have hcod:codG (dz ds) (bitG m) ds.length q i = if bitG m i = true then r % dz ds i else -1:=by unfold codG; rw [e5,h3]
 have hget:∀ (o:List Int) (c:Int),o.length = ds.length → (∀ j,j ≠ i → o.getD j 0 = out.getD j 0) → o.getD i 0 = codG (dz ds) (bitG m) ds.length q i → ∀ j,ds.length ≤ j + (k + 1) → j < ds.length → o.getD j 0 = codG (dz ds) (bitG m) ds.length q j:=fun o c ho h4 h5 j j1 j2 => by
  by_cases e:j = i
  ·rw [e]; exact h5
  ·rw [h4 j e]; exact h2 j (by omega) j2
 constructor
 ·intro hb;rw [if_pos hb] at hs hcod;refine ⟨by simpa using h1,hget _ 0 (by simpa using h1) (fun j hj => ?_) ?_,?_⟩
  ·simp [List.getD,Ne.symm hj]
  ·rw [hcod]; simp [List.getD,h1,show i < ds.length by omega]
  ·rw [e2,hs,← h3]
 ·intro hb;rw [if_neg (by rw [hb]; decide)] at hs hcod
  refine ⟨by simpa using h1,hget _ 0 (by simpa using h1) (fun j hj => ?_) ?_,?_⟩
  ·simp [List.getD,Ne.symm hj]
  ·rw [hcod]; simp [List.getD,h1,show i < ds.length by omega]
  ·rw [e2,hs,← h3]
theorem SplitAt.done {ds:List (ByteArray × Int)} {m q:Int} {out:List Int} {r:Int} (h:SplitAt ds m q ds.length out r):out = codesL ds m q:=by
 obtain ⟨h1,h2,-⟩:=h;refine List.ext_getElem (by rw [h1,zqek]) fun j j1 j2 => ?_
 have h3:=h2 j (by omega) (by omega)
 have h4:=zqgb ds m q (k:=j) (by omega)
 rw [List.getD,List.getElem?_eq_getElem j1] at h3;unfold cz at h4;rw [List.getD,List.getElem?_eq_getElem j2] at h4;exact h3.trans h4.symm
def OwnB (B:Nat) (w:World) (l:List Int) (e:Ending) (w':World):Prop:=(∃ v,e = .returned v ∧ IOwn w' B v l) ∧ Below B w w'
set_option maxHeartbeats 4000000 in
theorem zqu1 (w:World) (D:Value) (ds:List (ByteArray × Int)) (m q:Int) (h:Dims w D ds) (hn:ds.length ≤ 31) (hz:sizB ds = true) (m0:0 ≤ m) (m1:m ≤ 4294967295) (q0:0 ≤ q) (q1:q ≤ 18446744073709551615) :
  Calls Tryz.prog 116 #[D,.int .u32 m,.int .u64 q] w (OwnB w.heap.size w (codesL ds m q)):=by
 obtain ⟨i0,hi,hz0,hz1,hz2⟩:=info_parts Tryz.infoInt;obtain ⟨a,cap,rfl,h1,h2,h3⟩:=h;have HC:=zh h3;have HZ:=zh (fun k (hk:k < ds.length) => zqcj hz hk)
 have HH:=zh (fun w k hk => zqh9 w m k hk m0 m1)
 have HR:=zh (fun k out r (h:SplitAt ds m q k out r) hk => h.range hz hk q0)
 have HS:=zh (fun k i out r (h:SplitAt ds m q k out r) hi => h.step (i:=i) hz hi)
 have HD:=zh (fun out r (h:SplitAt ds m q ds.length out r) => h.done)
 have H0:=zh (SplitAt.start ds m q);clear h3 hz;go_enter Tryz.func116,Tryz.ntmps116;go_wp2_with (at_make; refine wpList_make_full _ rfl _ _ 69 rfl w.heap.size 3 i0 (.int .i64 0) 1 Tryz.underlying69 hi hz0 hz1 .i64 .i64 _ _ ds.length rfl rfl rfl rfl (by rw [hz2]; omega) (by unfold maxLen; omega) (Nat.le_refl _) ?_; intro w0 hown hgrow)
 have hF:=zh (zqqt rfl hown hgrow);clear hown hgrow;go_wp2_with fail;go_loopw [2,16] (fun rv i wr => ∃ (k:Nat) (out:List Int) (r:Int),k ≤ ds.length ∧ i = .int .i64 k ∧ rv = .int .u64 r ∧ Hid (SplitAt ds m q k out r) ∧ Hid (IFill w w.heap.size ds.length out wr)) (fun _ i _ => ds.length - (intOf i).toNat)
 case atStart => exact ⟨0,_,q,Nat.zero_le _,rfl,rfl,H0,hF⟩
 case round =>
  obtain ⟨k,out,r,hk,rfl,rfl,hR,hS⟩:=hrel;clear hF H0;have hr:=HR.out k out r hR.out hk
  by_cases hlk:k < ds.length
  ·rcases HC.out with h3 | ⟨b,off,rfl,hlt,hcell⟩
   ·rw [h3] at hlk; simp at hlk
   obtain ⟨i,hi2⟩:∃ i,k + 1 + i = ds.length:=⟨ds.length - (k + 1),by omega⟩
   have hlen:=hR.out.1;obtain ⟨f1,f2⟩:=hS.out.cells (j:=i) (by omega)
   have hST:=zh (HS.out k i out r hR.out hi2);have hB1:=hS.out.set i (-1);obtain ⟨f3,f4⟩:=hB1.cells (j:=i) (by simp; omega)
   have hB2:=zh (fun x => hB1.set i x)
   have hB1:=zh hB1;obtain ⟨c0,c1⟩:=hcell i (by omega)
   have c1:(wr.setCell ⟨w.heap.size,i,none⟩ (.int .i64 (-1))).cell? ⟨b,off + i * 2 + 1,none⟩ = _:=(hB1.out.2.1.cell (p:=⟨b,off + i * 2 + 1,none⟩) hlt).trans c1;have hz:=HZ.out i (by omega)
   have HHk:=zh (fun w => HH.out w i (by omega))
   have ei:(ds.length:Int) - 1 - (k:Int) = (i:Int):=by omega
   clear hcell c0 hR hS hlen;generalize dz ds i = z at *
   by_cases hbit:bitG m i = true
   ·have hST2:=zh (hST.out.1 hbit);rw [hbit] at HHk;have i1:IntKind.u64.wrap z = z:=by rw [IntKind.wrap_u64]; omega
    have i2:r.tmod z = r % z:=Int.tmod_eq_emod_of_nonneg hr.1;have i3:r.tdiv z = r / z:=Int.tdiv_eq_ediv_of_nonneg hr.1;have hm:=Int.emod_lt_of_pos r (show 0 < z by omega)
    have hm0:=Int.emod_nonneg r (show z ≠ 0 by omega)
    have hd0:0 ≤ r / z:=Int.ediv_nonneg hr.1 (by omega)
    have hd1:r / z ≤ r:=Int.ediv_le_self _ hr.1;generalize r % z = y at *;generalize r / z = r2 at *;have i4:IntKind.u64.wrap r2 = r2:=by rw [IntKind.wrap_u64]; omega
    clear hbit hST;go_wp2_with fail;refine (HHk.out _).mono ?_; rintro e w1 ⟨rfl,rfl⟩;go_wp2_with fail;go_roundw
    case rel => exact ⟨k + 1,_,_,by omega,by go_num,rfl,hST2,zh (hB2.out _)⟩
    case measure => simp [intOf]; omega
   ·have hST2:=zh (hST.out.2 (eq_false_of_ne_true hbit));rw [eq_false_of_ne_true hbit] at HHk;clear hbit hST c1 hz;go_wp2_with fail;refine (HHk.out _).mono ?_; rintro e w1 ⟨rfl,rfl⟩;go_wp2_with fail;go_roundw
    case rel => exact ⟨k + 1,_,_,by omega,by go_num,rfl,hST2,hB1⟩
    case measure => simp [intOf]; omega
  ·have:k = ds.length:=by omega
   subst this;have hE:=HD.out out r hR.out;subst hE;have hW:=zh hS.out;clear hR hS;go_wp2_with fail;go_ret;refine ⟨⟨_,rfl,?_⟩,hW.out.2.1⟩;have:=hW.out.1;rw [zqek] at this;rw [IOwn,zqek];exact this
theorem zqge {m:Int} (m0:0 ≤ m) (k:Nat):bitG m k = m.toNat.testBit k:=by
 obtain ⟨M,rfl⟩:∃ M:Nat,m = M:=⟨m.toNat,by omega⟩
 rw [Nat.testBit_eq_decide_div_mod_eq,Int.toNat_natCast];unfold bitG;have e:((2 ^ k:Nat):Int) = 2 ^ k:=by rw [Int.natCast_pow]; rfl
 rw [← e];have h:((M:Int) / ((2 ^ k:Nat):Int) % 2 = 1) ↔ M / 2 ^ k % 2 = 1:=by omega
 by_cases q:M / 2 ^ k % 2 = 1
 ·rw [decide_eq_true q,decide_eq_true (h.2 q)]
 ·rw [decide_eq_false q,decide_eq_false (fun x => q (h.1 x))]
def subM (b a:Int):Bool:=(List.range 32).all fun k => !bitG b k || bitG a k
theorem zqg8 {b a:Int} (b0:0 ≤ b) (b1:b ≤ 4294967295):subM b a = true ↔ ∀ k,bitG b k = true → bitG a k = true:=by
 unfold subM;rw [List.all_eq_true]
 constructor
 ·intro h k hk
  by_cases hk2:k < 32
  ·have:=h k (by simpa using hk2)
   rw [hk] at this;simpa using this
  ·rw [zqge b0,Nat.testBit_lt_two_pow (Nat.lt_of_lt_of_le (show b.toNat < 2 ^ 32 by omega) (Nat.pow_le_pow_right (by decide) (by omega)))] at hk
   cases hk
 ·intro h k hk
  by_cases hb:bitG b k = true
  ·rw [h k hb]; simp
  ·rw [eq_false_of_ne_true hb]; simp
theorem zqnr {b a:Int} (b0:0 ≤ b) (b1:b ≤ 4294967295) (a0:0 ≤ a) (a1:a ≤ 4294967295):(bits .andNot .u32 b a != 0) = !subM b a:=by
 rw [u32_andNot b a b0 (by omega) a0 (by omega)]
 have hk:∀ k,(b.toNat &&& (4294967295 - a.toNat)).testBit k = (bitG b k && !bitG a k):=fun k => by
  rw [Nat.testBit_and,zqge b0,zqge a0,show 4294967295 - a.toNat = 2 ^ 32 - (a.toNat + 1) by omega,Nat.testBit_two_pow_sub_succ (by omega)]
  by_cases h:k < 32
  ·simp [h]
  ·rw [Nat.testBit_lt_two_pow (Nat.lt_of_lt_of_le (show b.toNat < 2 ^ 32 by omega) (Nat.pow_le_pow_right (by decide) (by omega)))]
   simp
 by_cases hs:subM b a = true
 ·have h:=(zqg8 (a:=a) b0 b1).1 hs;have e:b.toNat &&& (4294967295 - a.toNat) = 0:=Nat.eq_of_testBit_eq fun k => by
   rw [hk,Nat.zero_testBit]
   by_cases q:bitG b k = true
   ·rw [h k q]; simp
   ·rw [eq_false_of_ne_true q]; simp
  rw [e,hs]; rfl
 ·have e:b.toNat &&& (4294967295 - a.toNat) ≠ 0:=fun e => hs ((zqg8 b0 b1).2 fun k q => by
   have:=hk k;rw [e,Nat.zero_testBit,q] at this;simpa using this.symm)
  rw [eq_false_of_ne_true hs];simp only [Bool.not_false,bne_iff_ne];omega
theorem zqeb {S:Sc} (h:checkL S = 0):S.ds.length ≤ 6 ∧ sizB S.ds = true:=⟨(zqcc.1 (zqga h).1).2.1,(zqga h).2.1⟩
def downE (S:Sc) (a b q:Int):Nat:=if numE S a = 0 then if subM b a = true then if keysL S.ds a S.ds.length ≤ q then 2 else 0 else 11 else numE S a
def downL (S:Sc) (a b q:Int):Int:=if downE S a b q = 0 then downG (dz S.ds) (bitG a) (bitG b) S.ds.length q else 0
theorem zqv3 {S:Sc} {a b q:Int} (h:downE S a b q = 0):numE S a = 0 ∧ subM b a = true ∧ q < keysL S.ds a S.ds.length:=by
 unfold downE at h
 split at h
 ·rename_i h1
  split at h
  ·rename_i h2
   split at h
   ·cases h
   ·exact ⟨h1,h2,by omega⟩
  ·cases h
 ·rename_i h1; exact absurd h h1
theorem zqvs {ds:List (ByteArray × Int)} {a b q:Int} (hz:sizB ds = true) (hs:∀ k,bitG b k = true → bitG a k = true):InG (dz ds) (cz (codesL ds a q)) (bitG b) ds.length:=fun k hk hp => by
 rw [zqgb ds a q hk];exact zqkt (zqdg hz) q k hk (hs k hp)
theorem zqsm {ds:List (ByteArray × Int)} {a b q:Int}:keyG (dz ds) (cz (codesL ds a q)) (bitG b) ds.length = downG (dz ds) (bitG a) (bitG b) ds.length q :=
 zqjb fun k hk hp => zqgb ds a q hk
set_option maxHeartbeats 4000000 in
theorem zqv1 (w:World) (D I M V:Value) (S:Sc) (a b q:Int) (h:Sch4 w D I M V S) (hw:SWf S) (a0:0 ≤ a) (a1:a ≤ 4294967295) (b0:0 ≤ b) (b1:b ≤ 4294967295) (q0:0 ≤ q) (q1:q ≤ 18446744073709551615) :
  Calls Tryz.prog 58 #[SchV D I M V,.int .u32 a,.int .u32 b,.int .u64 q] w fun e w' => e = .returned (.tuple #[.int .u64 (downL S a b q),.int .i64 (downE S a b q)]) ∧ Below w.heap.size w w':=by
 have HB0:=zh (zqab w (SchO D I M V));have HX:=zh (zqau w D I M V);have HN:=zh (fun w1 (hb:Below w.heap.size w w1) => zqho w1 D I M V S a (h.below hb) hw a0 a1)
 by_cases hn:numE S a = 0
 ·rw [hn,if_pos rfl] at HN;have hy:=zqeb (zqg5 hn).1;have hsub:=zqnr b0 b1 a0 a1;have HS:=zh (fun w1 (hb:Below w.heap.size w w1) => zqu1 w1 D S.ds a q (h.below hb).d (by omega) hy.2 a0 a1 q0 q1)
  have HJ:=zh (fun w1 (hb:Below w.heap.size w w1) (hs:subM b a = true) u (hu:Ints .i64 w1 u (codesL S.ds a q)) => zqk8 w1 D u S.ds b (codesL S.ds a q) (h.below hb).d hu (by omega) (zqek _ _ _) hy.2 (zqvs hy.2 ((zqg8 b0 b1).1 hs)) b0 b1)
  obtain ⟨⟨p,c,rfl⟩,⟨p2,c2,rfl⟩,⟨p3,c3,rfl⟩,p4,c4,rfl⟩:=h.slices
  by_cases hs:subM b a = true
  ·rw [hs] at hsub
   by_cases hq:keysL S.ds a S.ds.length ≤ q
   ·have hE:downE S a b q = 2:=by unfold downE; rw [if_pos hn,if_pos hs,if_pos hq]
    have hL:downL S a b q = 0:=by unfold downL; rw [hE]; rfl
    rw [hE,hL];generalize keysL S.ds a S.ds.length = ky at *;clear hn hE h hw hy HS HJ hL hs;go_enter Tryz.func58,Tryz.ntmps58;go_wp2_with fail;refine (HN.out _ HB0.out).mono ?_; rintro e w1 ⟨rfl,hb⟩;have HB1:=zh (zqaa HB0.out hb);clear hb;go_wp2_with fail;exact bodyPost_ret (v:=.tuple #[.int .u64 0,.int .i64 2]) (by simp [results,Tryz.results58,go_sem]) rfl ⟨rfl,HB1.out⟩
   ·have hE:downE S a b q = 0:=by unfold downE; rw [if_pos hn,if_pos hs,if_neg hq]
    have hL:downL S a b q = keyG (dz S.ds) (cz (codesL S.ds a q)) (bitG b) S.ds.length:=by unfold downL; rw [hE,if_pos rfl,zqsm]
    rw [hE,hL];generalize keysL S.ds a S.ds.length = ky at *;have HJ2:=zh (fun w1 hb u hu => HJ.out w1 hb hs u hu)
    generalize keyG (dz S.ds) (cz (codesL S.ds a q)) (bitG b) S.ds.length = r at *;generalize codesL S.ds a q = l at *;clear hn hE h hw hy hL hs HJ;go_enter Tryz.func58,Tryz.ntmps58;go_wp2_with fail;refine (HN.out _ HB0.out).mono ?_; rintro e w1 ⟨rfl,hb⟩;have HB1:=zh (zqaa HB0.out hb);obtain ⟨x0,x1,x2,x3⟩:=(HX.out.below hb).reads;clear hb;go_upto_region 8 with fail;have hk:w1.drew.cell? ⟨w.heap.size,0,none⟩ = some (.slice p S.ds.length c):=by simp [x0]
    have hBw:Below w.heap.size w w1.drew:=HB1.out.drew;clear x0 x1 x2 x3;go_region_held3 (fun w' => w'.cell? ⟨w.heap.size,0,none⟩ = some (.slice p S.ds.length c)) (with_reducible exact hk)
     (first
      | (go_at_call 116; refine (HS.out _ hBw).mono ?_; rintro r w4 ⟨⟨v,rfl,hv⟩,hb2⟩; have hV:=Ints.own hv; obtain ⟨pa,pc,rfl,-,-⟩:=id hV; have hk:=cell_later hb2 hk; have hBw:=zqaa hBw hb2; clear hb2 hv)
      | (go_at_call 115; refine (HJ2.out _ hBw _ hV).mono ?_; rintro r w5 ⟨rfl,hb2⟩; have hk:=cell_later hb2 hk; have hBw:=zqaa hBw hb2; clear hb2))
    have HB7:=zh hBw;clear hBw hV;go_wp2_with fail;exact bodyPost_ret (v:=.tuple #[.int .u64 r,.int .i64 0]) (by simp [results,Tryz.results58,go_sem]) rfl ⟨rfl,HB7.out⟩
  ·have hE:downE S a b q = 11:=by unfold downE; rw [if_pos hn,if_neg hs]
   have hL:downL S a b q = 0:=by unfold downL; rw [hE]; rfl
   rw [hE,hL];rw [eq_false_of_ne_true hs] at hsub;generalize keysL S.ds a S.ds.length = ky at *;clear hn hE h hw hy HS HJ hL hs;go_enter Tryz.func58,Tryz.ntmps58;go_wp2_with fail;refine (HN.out _ HB0.out).mono ?_; rintro e w1 ⟨rfl,hb⟩;have HB1:=zh (zqaa HB0.out hb);clear hb;go_wp2_with fail;exact bodyPost_ret (v:=.tuple #[.int .u64 0,.int .i64 11]) (by simp [results,Tryz.results58,go_sem]) rfl ⟨rfl,HB1.out⟩
 ·obtain ⟨⟨p,c,rfl⟩,⟨p2,c2,rfl⟩,⟨p3,c3,rfl⟩,p4,c4,rfl⟩:=h.slices;have hE:downE S a b q = numE S a:=by unfold downE; rw [if_neg hn]
  have hL:downL S a b q = 0:=by unfold downL; rw [hE,if_neg hn]
  rw [hE,hL];rw [if_neg hn] at HN;have hz:((numE S a:Int) != 0) = true:=by simp; omega
  generalize (numE S a:Int) = ne at *;clear hn hE h hw hL;go_enter Tryz.func58,Tryz.ntmps58;go_wp2_with fail;refine (HN.out _ HB0.out).mono ?_; rintro e w1 ⟨rfl,hb⟩;have HB1:=zh (zqaa HB0.out hb);clear hb;go_wp2_with fail;exact bodyPost_ret (v:=.tuple #[.int .u64 0,.int .i64 ne]) (by simp [results,Tryz.results58,go_sem]) rfl ⟨rfl,HB1.out⟩
def rngAt (ds:List (ByteArray × Int)) (m:Int) (l:List Int) (k:Nat):Bool:=!bitG m k || (decide (0 ≤ cz l k) && decide (cz l k < dz ds k))
def rngB (ds:List (ByteArray × Int)) (m:Int) (l:List Int):Bool:=(List.range ds.length).all (rngAt ds m l)
theorem zquo {ds:List (ByteArray × Int)} {m:Int} {l:List Int} (h:∀ k,k < ds.length → rngAt ds m l k = true):InG (dz ds) (cz l) (bitG m) ds.length:=fun k hk hp => by
 have:=h k hk;unfold rngAt at this;rw [hp] at this;simpa using this
theorem zqxh {ds:List (ByteArray × Int)} {m:Int} {l:List Int} (h:∀ k,k < ds.length → rngAt ds m l k = true):rngB ds m l = true:=List.all_eq_true.2 fun x hx => h x (by simpa using hx)
theorem zqy7 {ds:List (ByteArray × Int)} {m:Int} {l:List Int} {k:Nat} (hk:k < ds.length) (h:rngAt ds m l k = false):rngB ds m l = false:=List.all_eq_false.2 ⟨k,by simpa using hk,by simp [h]⟩
theorem zqy8 {ds:List (ByteArray × Int)} {m:Int} {l:List Int} (h:rngB ds m l = true):∀ k,k < ds.length → rngAt ds m l k = true:=fun k hk => List.all_eq_true.1 h k (by simpa using hk)
def ofE (S:Sc) (m:Int) (l:List Int):Nat:=if numE S m = 0 then if l.length = S.ds.length then if rngB S.ds m l = true then 0 else 2 else 3 else numE S m
def ofL (S:Sc) (m:Int) (l:List Int):Int:=if ofE S m l = 0 then keyG (dz S.ds) (cz l) (bitG m) S.ds.length else 0
theorem zqz8 {S:Sc} {m:Int} {l:List Int} (h:ofE S m l = 0):numE S m = 0 ∧ l.length = S.ds.length ∧ InG (dz S.ds) (cz l) (bitG m) S.ds.length:=by
 unfold ofE at h
 split at h
 ·rename_i h1
  split at h
  ·rename_i h2
   split at h
   ·rename_i h3; exact ⟨h1,h2,zquo (zqy8 h3)⟩
   ·cases h
  ·cases h
 ·rename_i h1; exact absurd h h1
end Go.Proofs.YtmnbljijnbhghaaGreatDoor
