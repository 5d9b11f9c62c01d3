/- Contracts that the law leans on: Mini Nums Digits Words Ints. -/
import Derived.Deep.RegionHeld3
import Derived.Lib.Hide
import Derived.WalkKit
import Derived.Laws.Bits64
import Derived.Laws.Bits64b
import Derived.Laws.BitsAllLaws
import Derived.Deep.Draws
import Derived.Test.YtmnbljijnbhghaaGreatDoorProg
import Derived.Test.YtmnbljijnbhghaaGreatDoorPt01
namespace Go.Proofs.YtmnbljijnbhghaaGreatDoor
open Go
theorem zh {p : Prop} (h : p) : RowKit.Hid p := Lib.hid h
theorem pS : (∀ (a : Act) (d : Nat) (v : Value), Act.put a (some d) v = { a with tmps := a.tmps.setIfInBounds d v }) ∧ (∀ (l : List Value) (i : Nat) (v : Value), l.toArray.setIfInBounds i v = (l.set i v).toArray) ∧ (∀ (x : Value) (l : List Value) (v : Value), (x :: l).set 0 v = v :: l) ∧ (∀ (x : Value) (l : List Value) (n : Nat) (v : Value), (x :: l).set (n + 1) v = x :: l.set n v) :=
  ⟨fun _ _ _ => rfl, fun _ _ _ => List.setIfInBounds_toArray .., fun _ _ _ => rfl, fun _ _ _ _ => rfl⟩
section
variable {P : Program} {ops : Array Oper} {Q : Exit → Act → World → Prop} {md : Region.Mode} {S : World → Prop} {z : Nat}
theorem tkA (i d : Nat) (v : Value) {op : Op} {ty : TypeId} {ps : String} {af : Array Edge} {gd : Option (Nat × Bool)} {fuel : Nat} {listed : Array Bool} {a : Act} {w : World} (hi : ops[i]? = some { dst := some d, op := op, type := ty, pos := ps, after := af, guard := gd }) (hS : S w)
    (h : wpAnyH P md ops Q S fuel (listed.setIfInBounds i true) (a.put (some d) v) w)
    (hs : Region.noSelect ops = true := by kernel_rfl) (hf : Region.free md ops listed i = true := by kernel_rfl) (hr : (Region.ready md ops listed).contains i = true := by kernel_rfl)
    (hQ : ∀ c a w, Q (.panic c) (a.put (some d) v) w → Q (.panic c) a w := by exact fun _ _ _ h => h)
    (hy : YieldsIf P ops S { dst := some d, op := op, type := ty, pos := ps, after := af, guard := gd } v a := by exact Or.inl ⟨by kernel_rfl, fun w hSw => by (try dsimp only at hSw); first | (go_simp; done) | (go_simp; rfl)⟩) : wpAnyH P md ops Q S (fuel + 1) listed a w :=
  wpAnyH_take hi hs hf hr hQ hy hS h
theorem skA (i d : Nat) (v : Value) {op : Op} {ty : TypeId} {ps : String} {af : Array Edge} {gd : Option (Nat × Bool)} {fuel : Nat} {listed : Array Bool} {a : Act} {w : World} (hi : ops[i]? = some { dst := some d, op := op, type := ty, pos := ps, after := af, guard := gd }) (hS : S w)
    (h : wpAnyH P md ops Q S fuel (listed.setIfInBounds i true) (a.put (some d) v) w)
    (hs : Region.noSelect ops = true := by kernel_rfl) (hf : Region.free md ops listed i = true := by kernel_rfl) (hr : (Region.ready md ops listed).contains i = true := by kernel_rfl)
    (hQ : ∀ c a w, Q (.panic c) (a.put (some d) v) w → Q (.panic c) a w := by exact fun _ _ _ h => h)
    (hy : YieldsIf P ops S { dst := some d, op := op, type := ty, pos := ps, after := af, guard := gd } v a := by exact Or.inr ⟨by kernel_rfl, rfl⟩) : wpAnyH P md ops Q S (fuel + 1) listed a w :=
  wpAnyH_take hi hs hf hr hQ hy hS h
theorem tkZ (i d : Nat) (v : Value) {op : Op} {ty : TypeId} {ps : String} {af : Array Edge} {gd : Option (Nat × Bool)} {fuel : Nat} {listed : Array Bool} {a : Act} {w : World} (hi : ops[i]? = some { dst := some d, op := op, type := ty, pos := ps, after := af, guard := gd }) (hS : S w)
    (h : wpZ P md ops Q S z fuel (listed.setIfInBounds i true) (a.put (some d) v) w)
    (hs : Region.noSelect ops = true := by kernel_rfl) (hf : Region.free md ops listed i = true := by kernel_rfl) (hr : (Region.ready md ops listed).contains i = true := by kernel_rfl) (hz : awaits md ops ops.size z i = true := by kernel_rfl)
    (hQ : ∀ c a w, Q (.panic c) (a.put (some d) v) w → Q (.panic c) a w := by exact fun _ _ _ h => h)
    (hy : YieldsIf P ops S { dst := some d, op := op, type := ty, pos := ps, after := af, guard := gd } v a := by exact Or.inl ⟨by kernel_rfl, fun w hSw => by (try dsimp only at hSw); first | (go_simp; done) | (go_simp; rfl)⟩) : wpZ P md ops Q S z (fuel + 1) listed a w :=
  zqn4 hi hs hf hr hz hQ hy hS h
theorem skZ (i d : Nat) (v : Value) {op : Op} {ty : TypeId} {ps : String} {af : Array Edge} {gd : Option (Nat × Bool)} {fuel : Nat} {listed : Array Bool} {a : Act} {w : World} (hi : ops[i]? = some { dst := some d, op := op, type := ty, pos := ps, after := af, guard := gd }) (hS : S w)
    (h : wpZ P md ops Q S z fuel (listed.setIfInBounds i true) (a.put (some d) v) w)
    (hs : Region.noSelect ops = true := by kernel_rfl) (hf : Region.free md ops listed i = true := by kernel_rfl) (hr : (Region.ready md ops listed).contains i = true := by kernel_rfl) (hz : awaits md ops ops.size z i = true := by kernel_rfl)
    (hQ : ∀ c a w, Q (.panic c) (a.put (some d) v) w → Q (.panic c) a w := by exact fun _ _ _ h => h)
    (hy : YieldsIf P ops S { dst := some d, op := op, type := ty, pos := ps, after := af, guard := gd } v a := by exact Or.inr ⟨by kernel_rfl, rfl⟩) : wpZ P md ops Q S z (fuel + 1) listed a w :=
  zqn4 hi hs hf hr hz hQ hy hS h
end
end Go.Proofs.YtmnbljijnbhghaaGreatDoor
namespace Go.Proofs.YtmnbljijnbhghaaGreatDoor
set_option maxRecDepth 100000
open Go.RowKit
theorem zqar {k:IntKind} {a b:Int} (h:a = b):Ending.returned (.int k a) = .returned (.int k b):=by rw [h]
theorem zqca {a b:Bool} (h:a = b):Ending.returned (.bool a) = .returned (.bool b):=by rw [h]
theorem zquj {k:IntKind} {a b:Int} {x y:Bool} (h:a = b) (g:x = y):Ending.returned (.tuple #[.int k a,.bool x]) = .returned (.tuple #[.int k b,.bool y]):=by rw [h,g]
theorem zquk {k l:IntKind} {a b c d:Int} (h:a = b) (i:c = d):Ending.returned (.tuple #[.int k a,.int l c]) = .returned (.tuple #[.int k b,.int l d]):=by rw [h,i]
theorem wrap64_in {n:Int} (h1:-9223372036854775808 ≤ n) (h2:n ≤ 9223372036854775807):wrap64 n = n:=by unfold wrap64; omega
theorem zqff (v:BitVec 64):IntKind.i64.wrap (v.toNat:Int) = v.toInt:=by
 have h:=v.isLt;rw [IntKind.wrap_i64,BitVec.toInt_eq_toNat_cond]
 split <;> omega
theorem zqes (x:Int) (h1:-9223372036854775808 ≤ x) (h2:x ≤ 9223372036854775807):(BitVec.ofInt 64 x).msb = decide (x < 0):=by
 rw [BitVec.msb_eq_toInt,BitVec.toInt_ofInt];have:x.bmod (2 ^ 64) = x:=by
  rw [Int.bmod_eq_of_le] <;> omega
 rw [this]
theorem zqqs (x y:Int):bits .and .i64 x y = (BitVec.ofInt 64 x &&& BitVec.ofInt 64 y).toInt:=zqff _
theorem zqja (x y:Int):bits .xor .i64 x y = (BitVec.ofInt 64 x ^^^ BitVec.ofInt 64 y).toInt:=zqff _
theorem zqo0 (v:BitVec 64):-9223372036854775808 ≤ v.toInt ∧ v.toInt ≤ 9223372036854775807:=by
 have h:=v.isLt;rw [BitVec.toInt_eq_toNat_cond]
 split <;> omega
theorem zqb7 (x y:Int):-9223372036854775808 ≤ bits .xor .i64 x y ∧ bits .xor .i64 x y ≤ 9223372036854775807:=by
 rw [zqja]; exact zqo0 _
theorem zql0 (v:BitVec 64):decide (v.toInt < 0) = v.msb:=by
 rw [BitVec.msb_eq_toInt]
theorem zqol (x y:Int) (h1:-9223372036854775808 ≤ x) (h2:x ≤ 9223372036854775807) (h3:-9223372036854775808 ≤ y) (h4:y ≤ 9223372036854775807) :
  decide (bits .and .i64 x y < 0) = (decide (x < 0) && decide (y < 0)):=by
 rw [zqqs,zql0,BitVec.msb_and,zqes x h1 h2,zqes y h3 h4]
theorem zqhm (x y:Int) (h1:-9223372036854775808 ≤ x) (h2:x ≤ 9223372036854775807) (h3:-9223372036854775808 ≤ y) (h4:y ≤ 9223372036854775807) :
  decide (bits .xor .i64 x y < 0) = (decide (x < 0) != decide (y < 0)):=by
 rw [zqja,zql0,BitVec.msb_xor,zqes x h1 h2,zqes y h3 h4]
def fitB (z:Int):Bool:=decide (-9223372036854775808 ≤ z) && decide (z ≤ 9223372036854775807)
def clip (z:Int):Int:=bif fitB z then z else 0
theorem zqh3 {z:Int} (h1:-9223372036854775808 ≤ z) (h2:z ≤ 9223372036854775807):fitB z = true:=by simp [fitB,h1,h2]
theorem zqg2 {z:Int} (h:z < -9223372036854775808 ∨ 9223372036854775807 < z):fitB z = false:=by
 simp only [fitB,Bool.and_eq_false_iff,decide_eq_false_iff_not]; omega
theorem zqvo {z:Int} (h1:-9223372036854775808 ≤ z) (h2:z ≤ 9223372036854775807):clip z = z:=by simp [clip,zqh3 h1 h2]
theorem zqx8 {z:Int} (h:z < -9223372036854775808 ∨ 9223372036854775807 < z):clip z = 0:=by simp [clip,zqg2 h]
theorem zqy5 {z y:Int} {b:Bool} (h1:-9223372036854775808 ≤ z) (h2:z ≤ 9223372036854775807) (hy:y = z) (hb:b = true):Ending.returned (.tuple #[.int .i64 y,.bool b]) = .returned (.tuple #[.int .i64 (clip z),.bool (fitB z)]) :=
 zquj (by rw [zqvo h1 h2,hy]) (by rw [zqh3 h1 h2,hb])
theorem zqul {z y:Int} {b:Bool} (h:z < -9223372036854775808 ∨ 9223372036854775807 < z) (hy:y = 0) (hb:b = false):Ending.returned (.tuple #[.int .i64 y,.bool b]) = .returned (.tuple #[.int .i64 (clip z),.bool (fitB z)]) :=
 zquj (by rw [zqx8 h,hy]) (by rw [zqg2 h,hb])
theorem zqhd (x y u v:Int) (hx:-9223372036854775808 ≤ x ∧ x ≤ 9223372036854775807) (hy:-9223372036854775808 ≤ y ∧ y ≤ 9223372036854775807) (hu:-9223372036854775808 ≤ u ∧ u ≤ 9223372036854775807) (hv:-9223372036854775808 ≤ v ∧ v ≤ 9223372036854775807) :
  decide (bits .and .i64 (bits .xor .i64 x y) (bits .xor .i64 u v) < 0) = ((decide (x < 0) != decide (y < 0)) && (decide (u < 0) != decide (v < 0))):=by
 rw [zqol _ _ (zqb7 _ _).1 (zqb7 _ _).2 (zqb7 _ _).1 (zqb7 _ _).2,zqhm x y hx.1 hx.2 hy.1 hy.2,zqhm u v hu.1 hu.2 hv.1 hv.2]
theorem zqg0 (n:Int):-9223372036854775808 ≤ wrap64 n ∧ wrap64 n ≤ 9223372036854775807:=by unfold wrap64; omega
theorem zqmf (a b:Int) (h1:-9223372036854775808 ≤ a) (h2:a ≤ 9223372036854775807) (h3:-9223372036854775808 ≤ b) (h4:b ≤ 9223372036854775807) (h5:-9223372036854775808 ≤ a + b) (h6:a + b ≤ 9223372036854775807) :
  ¬ bits .and .i64 (bits .xor .i64 a (a + b)) (bits .xor .i64 b (a + b)) < 0:=by
 have h:=zqhd a (a + b) b (a + b) ⟨h1,h2⟩ ⟨h5,h6⟩ ⟨h3,h4⟩ ⟨h5,h6⟩;intro hn;rw [decide_eq_true hn] at h;have h:=h.symm;simp only [Bool.and_eq_true,bne_iff_ne,ne_eq,decide_eq_decide] at h;omega
theorem zqn9 (a b:Int) (h1:-9223372036854775808 ≤ a) (h2:a ≤ 9223372036854775807) (h3:-9223372036854775808 ≤ b) (h4:b ≤ 9223372036854775807) (h5:a + b < -9223372036854775808 ∨ 9223372036854775807 < a + b) :
  bits .and .i64 (bits .xor .i64 a (wrap64 (a + b))) (bits .xor .i64 b (wrap64 (a + b))) < 0:=by
 have h:=zqhd a (wrap64 (a + b)) b (wrap64 (a + b)) ⟨h1,h2⟩ (zqg0 _) ⟨h3,h4⟩ (zqg0 _);apply of_decide_eq_true;rw [h];simp only [Bool.and_eq_true,bne_iff_ne,ne_eq,decide_eq_decide];unfold wrap64;omega
def valN (a:List Int):Nat → Int
 | 0 => 0
 | n + 1 => valN a n + a.getD n 0 * 1000 ^ n
def val (a:List Int):Int:=valN a a.length
def Dig (a:List Int):Prop:=∀ x ∈ a,0 ≤ x ∧ x ≤ 999
theorem Dig.getD {a:List Int} (h:Dig a) (i:Nat):0 ≤ a.getD i 0 ∧ a.getD i 0 ≤ 999:=by
 by_cases hi:i < a.length
 ·have e:a.getD i 0 = a[i]:=by simp [List.getD,hi]
  rw [e]; exact h _ (List.getElem_mem hi)
 ·have e:a.getD i 0 = 0:=by simp [List.getD,Nat.le_of_not_lt hi]
  rw [e]; omega
theorem zqa3 {a:List Int} {i:Nat} (h:a.length ≤ i):a.getD i 0 = 0:=by simp [List.getD,h]
theorem p_pos (n:Nat):(0:Int) < 1000 ^ n:=Int.pow_pos (by decide)
theorem zqbs (n:Nat):(1000:Int) ^ (n + 1) = 1000 ^ n * 1000:=Int.pow_succ ..
theorem zqfe {m n:Nat} (h:m ≤ n):(1000:Int) ^ m ≤ 1000 ^ n:=by
 induction n with
 | zero =>
  have:m = 0:=by omega
  subst this; exact Int.le_refl _
 | succ n ih =>
  by_cases e:m = n + 1
  ·subst e; exact Int.le_refl _
  ·have:=ih (by omega); have:=p_pos n; rw [zqbs]; omega
theorem zqb4 {a:List Int} (h:Dig a) (n:Nat):0 ≤ valN a n ∧ valN a n < 1000 ^ n:=by
 induction n with
 | zero => simp [valN]
 | succ n ih =>
  have hd:=h.getD n;have hp:=p_pos n;rw [valN,zqbs];have h1:0 ≤ a.getD n 0 * 1000 ^ n:=Int.mul_nonneg hd.1 (by omega)
  have h2:a.getD n 0 * 1000 ^ n ≤ 999 * 1000 ^ n:=Int.mul_le_mul_of_nonneg_right hd.2 (by omega)
  omega
theorem zqcl (a:List Int) {n:Nat} (hn:a.length ≤ n):valN a n = val a:=by
 induction n with
 | zero =>
  have:a.length = 0:=by omega
  simp [val,this]
 | succ n ih =>
  by_cases e:a.length = n + 1
  ·rw [val,e]
  ·rw [valN,ih (by omega),zqa3 (by omega)]; omega
theorem zqdy:val [] = 0:=rfl
theorem zqa7 {a:List Int} (h:Dig a):0 ≤ val a ∧ val a < 1000 ^ a.length:=zqb4 h _
theorem zqj5 {a b:List Int} {n:Nat} (h:∀ i,i < n → a.getD i 0 = b.getD i 0):valN a n = valN b n:=by
 induction n with
 | zero => rfl
 | succ n ih => rw [valN,valN,ih (fun i hi => h i (by omega)),h n (by omega)]
theorem zqnx (a:List Int) (x:Int) {n:Nat} (h:n ≤ a.length):valN (a ++ [x]) n = valN a n :=
 zqj5 (fun i hi => by simp [List.getD,List.getElem?_append,show i < a.length from by omega])
theorem zqf1 (a:List Int) (x:Int):val (a ++ [x]) = val a + x * 1000 ^ a.length:=by
 rw [val,List.length_append,List.length_singleton,valN,zqnx _ _ (Nat.le_refl _)];have:(a ++ [x]).getD a.length 0 = x:=by simp [List.getD]
 rw [this]; rfl
theorem Dig.snoc {a:List Int} (h:Dig a) {x:Int} (h1:0 ≤ x) (h2:x ≤ 999):Dig (a ++ [x]):=by
 intro y hy;rcases List.mem_append.1 hy with hy | hy
 ·exact h y hy
 ·simp at hy; subst hy; exact ⟨h1,h2⟩
theorem Dig.nil:Dig []:=fun _ h => by cases h
theorem Dig.take {a:List Int} (h:Dig a) (n:Nat):Dig (a.take n):=fun x hx => h x (List.mem_of_mem_take hx)
theorem zqfl (x p:Int):x % 1000 * p + x / 1000 * (p * 1000) = x * p:=by
 have h:x = x % 1000 + x / 1000 * 1000:=by omega
 calc x % 1000 * p + x / 1000 * (p * 1000) = (x % 1000 + x / 1000 * 1000) * p:=by rw [Int.add_mul,Int.mul_assoc (x / 1000) 1000 p,Int.mul_comm 1000 p]
  _ = x * p:=by rw [← h]
theorem zqgz {a b:List Int} {n:Nat} (h:∀ i,n ≤ i → a.getD i 0 = b.getD i 0):val a - valN a n = val b - valN b n:=by
 have key:∀ m,n ≤ m → valN a m - valN a n = valN b m - valN b n:=by
  intro m
  induction m with
  | zero =>
   intro hm; have:n = 0:=by omega
   subst this; rfl
  | succ m ih =>
   intro hm
   by_cases e:n = m + 1
   ·subst e; omega
   ·have:=ih (by omega)
    rw [valN,valN,h m (by omega)]; omega
 have h1:=key (max n (max a.length b.length)) (by omega)
 rw [zqcl a (by omega),zqcl b (by omega)] at h1
 exact h1
theorem zqc6 {a b:List Int} (h:∀ i,a.getD i 0 = b.getD i 0):val a = val b:=by
 have:=zqgz (n:=0) (a:=a) (b:=b) (fun i _ => h i)
 simp only [valN] at this; omega
theorem zqe1 {a b:List Int} (ha:Dig a) (hb:Dig b) {n:Nat} (h:∀ i,n + 1 ≤ i → a.getD i 0 = b.getD i 0) (hl:a.getD n 0 < b.getD n 0):val a < val b:=by
 have h1:=zqgz h;have h2:=zqb4 ha n;have h3:=zqb4 hb n;rw [valN,valN] at h1;have h4:(a.getD n 0 + 1) * 1000 ^ n ≤ b.getD n 0 * 1000 ^ n:=Int.mul_le_mul_of_nonneg_right (by omega) (Int.le_of_lt (p_pos n))
 rw [Int.add_mul] at h4;omega
def cmpI (x y:Int):Int:=if x < y then -1 else if x = y then 0 else 1
theorem zqdu {x y:Int} (h:x < y):cmpI x y = -1:=by simp [cmpI,h]
theorem zqpb {x y:Int} (h:x = y):cmpI x y = 0:=by simp [cmpI,h]
theorem zqg1 {x y:Int} (h:y < x):cmpI x y = 1:=by
 have h1:¬ x < y:=by omega
 have h2:¬ x = y:=by omega
 simp [cmpI,h1,h2]
theorem zqcx {x y:Int}:0 ≤ cmpI x y ↔ y ≤ x:=by unfold cmpI; split <;> (try split) <;> omega
theorem zqpc {x y:Int}:cmpI x y ≤ 0 ↔ x ≤ y:=by unfold cmpI; split <;> (try split) <;> omega
theorem zqr1 {a:List Int} (h:Dig a) {n:Nat} (hv:val a < 1000 ^ n):valN a n = val a:=by
 by_cases hn:a.length ≤ n
 ·exact zqcl a hn
 ·have key:∀ m,n ≤ m → valN a m < 1000 ^ n → valN a m = valN a n:=by
   intro m
   induction m with
   | zero =>
    intro hm _; have:n = 0:=by omega
    subst this; rfl
   | succ m ih =>
    intro hm hlt
    by_cases e:n = m + 1
    ·rw [e]
    ·rw [valN] at hlt ⊢;have hd:=h.getD m;have hr:=zqb4 h m;have hp:=p_pos m;have hq:=zqfe (m:=n) (n:=m) (by omega)
     have hz:a.getD m 0 = 0:=by
      by_cases e0:a.getD m 0 = 0
      ·exact e0
      ·exfalso;have:1 * 1000 ^ m ≤ a.getD m 0 * 1000 ^ m:=Int.mul_le_mul_of_nonneg_right (by omega) (Int.le_of_lt hp)
       omega
     rw [hz] at hlt ⊢;have:=ih (by omega) (by omega)
     omega
  exact (key a.length (by omega) hv).symm
def Tidy (a:List Int):Prop:=a = [] ∨ a.getD (a.length - 1) 0 ≠ 0
theorem Tidy.size {a:List Int} (ht:Tidy a) (hd:Dig a) (hne:a ≠ []):1000 ^ (a.length - 1) ≤ val a:=by
 have h0:=ht.resolve_left hne;have hl:0 < a.length:=List.length_pos_iff.2 hne;have e:a.length = (a.length - 1) + 1:=by omega
 have h1:=(hd.getD (a.length - 1));have h2:=(zqb4 hd (a.length - 1)).1;have h3:1 * 1000 ^ (a.length - 1) ≤ a.getD (a.length - 1) 0 * 1000 ^ (a.length - 1):=Int.mul_le_mul_of_nonneg_right (by omega) (Int.le_of_lt (p_pos _))
 have h4:val a = valN a (a.length - 1) + a.getD (a.length - 1) 0 * 1000 ^ (a.length - 1):=by
  conv => lhs; rw [val,e]
  rfl
 omega
theorem Tidy.len {a:List Int} (ht:Tidy a) (hd:Dig a) {n:Nat} (hv:val a < 1000 ^ n):a.length ≤ n:=by
 by_cases hne:a = []
 ·subst hne; simp
 ·have h:=ht.size hd hne
  by_cases hn:a.length ≤ n
  ·exact hn
  ·have:=zqfe (m:=n) (n:=a.length - 1) (by omega)
   omega
theorem Tidy.zero {a:List Int} (ht:Tidy a) (hd:Dig a):val a = 0 ↔ a = []:=by
 constructor
 ·intro h
  by_cases hne:a = []
  ·exact hne
  ·have:=ht.size hd hne;have:=p_pos (a.length - 1);omega
 ·intro h; subst h; rfl
theorem Tidy.pos {a:List Int} (ht:Tidy a) (hd:Dig a) (hne:a ≠ []):0 < val a:=by
 have:=ht.size hd hne;have:=p_pos (a.length - 1);omega
theorem getD_take {a:List Int} {n i:Nat} (h:i < n):(a.take n).getD i 0 = a.getD i 0:=by
 simp [List.getD,h]
theorem zqny {a:List Int} {n:Nat} (hn:n ≤ a.length) (h:∀ i,n ≤ i → a.getD i 0 = 0):val (a.take n) = val a:=by
 refine zqc6 (fun i => ?_)
 by_cases hi:i < n
 ·exact getD_take hi
 ·rw [h i (by omega),zqa3 (by rw [List.length_take]; omega)]
theorem zqlz {a:List Int} {n:Nat} (hn:n ≤ a.length) (h:n = 0 ∨ a.getD (n - 1) 0 ≠ 0):Tidy (a.take n):=by
 rcases h with rfl | h
 ·exact .inl rfl
 ·by_cases h0:n = 0
  ·subst h0; exact .inl rfl
  ·refine .inr ?_;have:(a.take n).length = n:=by rw [List.length_take]; omega
   rw [this,getD_take (by omega)]; exact h
end Go.Proofs.YtmnbljijnbhghaaGreatDoor
namespace Go.Proofs.YtmnbljijnbhghaaGreatDoor
set_option maxRecDepth 100000
open Go.RowKit
set_option linter.unusedVariables false
def wvN (a:List Int):Nat → Int
 | 0 => 0
 | n + 1 => wvN a n + a.getD n 0 * 4294967296 ^ n
def wv (a:List Int):Int:=wvN a a.length
def Wd (a:List Int):Prop:=∀ x ∈ a,0 ≤ x ∧ x ≤ 4294967295
theorem Wd.getD {a:List Int} (h:Wd a) (i:Nat):0 ≤ a.getD i 0 ∧ a.getD i 0 ≤ 4294967295:=by
 by_cases hi:i < a.length
 ·have e:a.getD i 0 = a[i]:=by simp [List.getD,hi]
  rw [e]; exact h _ (List.getElem_mem hi)
 ·have e:a.getD i 0 = 0:=by simp [List.getD,Nat.le_of_not_lt hi]
  rw [e]; omega
theorem q_pos (n:Nat):(0:Int) < 4294967296 ^ n:=Int.pow_pos (by decide)
theorem zqd9 (n:Nat):(4294967296:Int) ^ (n + 1) = 4294967296 ^ n * 4294967296:=Int.pow_succ ..
theorem zqgp {m n:Nat} (h:m ≤ n):(4294967296:Int) ^ m ≤ 4294967296 ^ n:=by
 induction n with
 | zero =>
  have:m = 0:=by omega
  subst this; exact Int.le_refl _
 | succ n ih =>
  by_cases e:m = n + 1
  ·subst e; exact Int.le_refl _
  ·have:=ih (by omega); have:=q_pos n; rw [zqd9]; omega
theorem zqbk {a:List Int} (h:Wd a) (n:Nat):0 ≤ wvN a n ∧ wvN a n < 4294967296 ^ n:=by
 induction n with
 | zero => simp [wvN]
 | succ n ih =>
  have hd:=h.getD n;have hp:=q_pos n;rw [wvN,zqd9];have h1:0 ≤ a.getD n 0 * 4294967296 ^ n:=Int.mul_nonneg hd.1 (by omega)
  have h2:a.getD n 0 * 4294967296 ^ n ≤ 4294967295 * 4294967296 ^ n:=Int.mul_le_mul_of_nonneg_right hd.2 (by omega)
  omega
theorem zqcb (a:List Int) {n:Nat} (hn:a.length ≤ n):wvN a n = wv a:=by
 induction n with
 | zero =>
  have:a.length = 0:=by omega
  simp [wv,this]
 | succ n ih =>
  by_cases e:a.length = n + 1
  ·rw [wv,e]
  ·rw [wvN,ih (by omega),zqa3 (by omega)]; omega
theorem zqn6:wv [] = 0:=rfl
theorem zqas {a:List Int} (h:Wd a):0 ≤ wv a ∧ wv a < 4294967296 ^ a.length:=zqbk h _
theorem zqe3 {a b:List Int} {n:Nat} (h:∀ i,i < n → a.getD i 0 = b.getD i 0):wvN a n = wvN b n:=by
 induction n with
 | zero => rfl
 | succ n ih => rw [wvN,wvN,ih (fun i hi => h i (by omega)),h n (by omega)]
theorem zqo4 (a:List Int) (x:Int) {n:Nat} (h:n ≤ a.length):wvN (a ++ [x]) n = wvN a n :=
 zqe3 (fun i hi => by simp [List.getD,List.getElem?_append,show i < a.length from by omega])
theorem zqkp (a:List Int) (x:Int):wv (a ++ [x]) = wv a + x * 4294967296 ^ a.length:=by
 rw [wv,List.length_append,List.length_singleton,wvN,zqo4 _ _ (Nat.le_refl _)];have:(a ++ [x]).getD a.length 0 = x:=by simp [List.getD]
 rw [this]; rfl
theorem Wd.snoc {a:List Int} (h:Wd a) {x:Int} (h1:0 ≤ x) (h2:x ≤ 4294967295):Wd (a ++ [x]):=by
 intro y hy;rcases List.mem_append.1 hy with hy | hy
 ·exact h y hy
 ·simp at hy; subst hy; exact ⟨h1,h2⟩
theorem Wd.nil:Wd []:=fun _ h => by cases h
theorem Wd.take {a:List Int} (h:Wd a) (n:Nat):Wd (a.take n):=fun x hx => h x (List.mem_of_mem_take hx)
theorem zqe9 (x p:Int):x % 4294967296 * p + x / 4294967296 * (p * 4294967296) = x * p:=by
 have h:x = x % 4294967296 + x / 4294967296 * 4294967296:=by omega
 calc x % 4294967296 * p + x / 4294967296 * (p * 4294967296) = (x % 4294967296 + x / 4294967296 * 4294967296) * p:=by rw [Int.add_mul,Int.mul_assoc (x / 4294967296) 4294967296 p,Int.mul_comm 4294967296 p]
  _ = x * p:=by rw [← h]
theorem zqhw {a b:List Int} {n:Nat} (h:∀ i,n ≤ i → a.getD i 0 = b.getD i 0):wv a - wvN a n = wv b - wvN b n:=by
 have key:∀ m,n ≤ m → wvN a m - wvN a n = wvN b m - wvN b n:=by
  intro m
  induction m with
  | zero =>
   intro hm; have:n = 0:=by omega
   subst this; rfl
  | succ m ih =>
   intro hm
   by_cases e:n = m + 1
   ·subst e; omega
   ·have:=ih (by omega)
    rw [wvN,wvN,h m (by omega)]; omega
 have h1:=key (max n (max a.length b.length)) (by omega)
 rw [zqcb a (by omega),zqcb b (by omega)] at h1
 exact h1
theorem zqdl {a b:List Int} (h:∀ i,a.getD i 0 = b.getD i 0):wv a = wv b:=by
 have:=zqhw (n:=0) (a:=a) (b:=b) (fun i _ => h i)
 simp only [wvN] at this; omega
theorem zqfg {a b:List Int} (ha:Wd a) (hb:Wd b) {n:Nat} (h:∀ i,n + 1 ≤ i → a.getD i 0 = b.getD i 0) (hl:a.getD n 0 < b.getD n 0):wv a < wv b:=by
 have h1:=zqhw h;have h2:=zqbk ha n;have h3:=zqbk hb n;rw [wvN,wvN] at h1;have h4:(a.getD n 0 + 1) * 4294967296 ^ n ≤ b.getD n 0 * 4294967296 ^ n:=Int.mul_le_mul_of_nonneg_right (by omega) (Int.le_of_lt (q_pos n))
 rw [Int.add_mul] at h4;omega
theorem zqvg {a:List Int} (h:Wd a) {n:Nat} (hv:wv a < 4294967296 ^ n):wvN a n = wv a:=by
 by_cases hn:a.length ≤ n
 ·exact zqcb a hn
 ·have key:∀ m,n ≤ m → wvN a m < 4294967296 ^ n → wvN a m = wvN a n:=by
   intro m
   induction m with
   | zero =>
    intro hm _; have:n = 0:=by omega
    subst this; rfl
   | succ m ih =>
    intro hm hlt
    by_cases e:n = m + 1
    ·rw [e]
    ·rw [wvN] at hlt ⊢;have hd:=h.getD m;have hr:=zqbk h m;have hp:=q_pos m;have hq:=zqgp (m:=n) (n:=m) (by omega)
     have hz:a.getD m 0 = 0:=by
      by_cases e0:a.getD m 0 = 0
      ·exact e0
      ·exfalso;have:1 * 4294967296 ^ m ≤ a.getD m 0 * 4294967296 ^ m:=Int.mul_le_mul_of_nonneg_right (by omega) (Int.le_of_lt hp)
       omega
     rw [hz] at hlt ⊢;have:=ih (by omega) (by omega)
     omega
  exact (key a.length (by omega) hv).symm
theorem Tidy.wsize {a:List Int} (ht:Tidy a) (hd:Wd a) (hne:a ≠ []):4294967296 ^ (a.length - 1) ≤ wv a:=by
 have h0:=ht.resolve_left hne;have hl:0 < a.length:=List.length_pos_iff.2 hne;have e:a.length = (a.length - 1) + 1:=by omega
 have h1:=(hd.getD (a.length - 1));have h2:=(zqbk hd (a.length - 1)).1;have h3:1 * 4294967296 ^ (a.length - 1) ≤ a.getD (a.length - 1) 0 * 4294967296 ^ (a.length - 1):=Int.mul_le_mul_of_nonneg_right (by omega) (Int.le_of_lt (q_pos _))
 have h4:wv a = wvN a (a.length - 1) + a.getD (a.length - 1) 0 * 4294967296 ^ (a.length - 1):=by
  conv => lhs; rw [wv,e]
  rfl
 omega
theorem Tidy.wlen {a:List Int} (ht:Tidy a) (hd:Wd a) {n:Nat} (hv:wv a < 4294967296 ^ n):a.length ≤ n:=by
 by_cases hne:a = []
 ·subst hne; simp
 ·have h:=ht.wsize hd hne
  by_cases hn:a.length ≤ n
  ·exact hn
  ·have:=zqgp (m:=n) (n:=a.length - 1) (by omega)
   omega
theorem Tidy.wzero {a:List Int} (ht:Tidy a) (hd:Wd a):wv a = 0 ↔ a = []:=by
 constructor
 ·intro h
  by_cases hne:a = []
  ·exact hne
  ·have:=ht.wsize hd hne;have:=q_pos (a.length - 1);omega
 ·intro h; subst h; rfl
theorem zqzt {a:List Int} {n:Nat} (hn:n ≤ a.length) (h:∀ i,n ≤ i → a.getD i 0 = 0):wv (a.take n) = wv a:=by
 refine zqdl (fun i => ?_)
 by_cases hi:i < n
 ·exact getD_take hi
 ·rw [h i (by omega),zqa3 (by rw [List.length_take]; omega)]
end Go.Proofs.YtmnbljijnbhghaaGreatDoor
namespace Go.Proofs.YtmnbljijnbhghaaGreatDoor
set_option maxRecDepth 100000
open Go.RowKit
def Ints (k:IntKind) (w:World) (v:Value) (zs:List Int):Prop :=
 ∃ a cap,v = .slice a zs.length cap ∧ zs.length ≤ cap ∧ (zs = [] ∨ ∃ b off,a = some ⟨b,off,none⟩ ∧ b < w.heap.size ∧ ∀ i,i < zs.length → w.cell? ⟨b,off + i,none⟩ = some (.int k (zs.getD i 0)))
end Go.Proofs.YtmnbljijnbhghaaGreatDoor
