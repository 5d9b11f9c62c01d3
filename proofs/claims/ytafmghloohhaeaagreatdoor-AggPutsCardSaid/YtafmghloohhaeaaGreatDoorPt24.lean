/- Contracts that the law leans on: Scht Schh. -/
import Derived.BigQuiet
import Derived.Deep.QuietTactic
import Derived.Test.YtafmghloohhaeaaGreatDoorPt02
import Derived.Test.YtafmghloohhaeaaGreatDoorPt22
import Derived.Test.YtafmghloohhaeaaGreatDoorPt23
namespace Go.Proofs.YtafmghloohhaeaaGreatDoor
set_option maxRecDepth 100000
open Go.RowKit
set_option linter.unusedVariables false
def stU (b:List Int) (most:Int) (s:Nat × Nat):Int × Nat × Nat :=
 if s.2 = 0 then ((uN most (getU (b.drop s.1))).1,if (uN most (getU (b.drop s.1))).2.2 = 0 then s.1 + (uN most (getU (b.drop s.1))).2.1 else s.1,(uN most (getU (b.drop s.1))).2.2) else (0,s)
def OkSt (b:List Int) (s:Nat × Nat):Prop:=s.1 ≤ b.length ∧ s.2 < 9
theorem zqg2 {b:List Int} (hb:Bt b) (most:Int) {s:Nat × Nat} (h:OkSt b s):OkSt b (stU b most s).2:=by
 unfold stU
 split
 ·have:=zqng most (hb.drop s.1);refine ⟨?_,this.1⟩;simp only
  split
  ·rename_i h0;have h1:=this.2.1 h0;have h2:=h.1;rw [List.length_drop] at h1;omega
  ·exact h.1
 ·exact h
theorem zqd5 {b:List Int} (hb:Bt b) {most:Int} (h0:0 ≤ most) (s:Nat × Nat):0 ≤ (stU b most s).1 ∧ (stU b most s).1 ≤ most:=by
 unfold stU
 split
 ·have h1:=zqng most (hb.drop s.1);have h2:=zqde (hb.drop s.1);simp only
  by_cases he:(uN most (getU (b.drop s.1))).2.2 = 0
  ·unfold uN at he ⊢
   split
   ·simp [h0]
   ·rename_i hn;rw [if_neg hn] at he;have:=h2.1 he;exact ⟨this.2.1,by
     by_cases q:most < (getU (b.drop s.1)).1
     ·exact absurd ⟨he,q⟩ hn
     ·omega⟩
  ·rw [h1.2.2 he]; exact ⟨Int.le_refl _,h0⟩
 ·exact ⟨Int.le_refl _,h0⟩
set_option maxRecDepth 100000
open Go.RowKit
set_option linter.unusedVariables false
theorem zqmk (w:World) (N:Nat) (b:List Int) (s:Nat × Nat) (most:Int) (h:InAt w N b s.1 s.2) (h9:s.2 < 9) :
  Calls Tryz.prog 61 #[.pointer (some ⟨N,0,none⟩),.int .u64 most] w fun r w' => r = .returned (.int .u64 (stU b most s).1) ∧ InAt w' N b (stU b most s).2.1 (stU b most s).2.2 ∧ w.grownBy w' (some N):=by
 obtain ⟨p,e⟩:=s;simp only at h h9;unfold stU
 by_cases he:e = 0
 ·subst he;rw [if_pos rfl];refine (zqzx w N b p most h).mono ?_;rintro r w' ⟨⟨v,rfl,rfl⟩,h2,h3⟩;exact ⟨rfl,h2,h3⟩
 ·rw [if_neg he];refine (zqw7 w _ e most (h.shut he (by omega))).mono ?_
  rintro r w' ⟨rfl,hb⟩;exact ⟨rfl,h.below hb,zqah hb _⟩
theorem cell_grown {w w':World} {N:Nat} {a:Addr} {v:Value} (hg:w.grownBy w' (some N)) (h:w.cell? a = some v) (hne:a.block ≠ N):w'.cell? a = some v:=by
 rw [hg.cell_far a (World.block_lt_of_cell? w a h) (by simpa using hne)]; exact h
theorem InAt.far {w w':World} {N K:Nat} {b:List Int} {p e:Nat} {cur:Array Value} {T:TypeId} {fr:Nat × Nat} (h:InAt w N b p e) (hp:w.heap[K]? = some (.cells cur T fr)) (hT:T ≠ 5) (hne:N ≠ K) (hg:w.grownBy w' (some K)):InAt w' N b p e:=by
 obtain ⟨v,h1,h2,h3,h4⟩:=h;refine ⟨v,?_,h2.grown h3 hp hT hg,h3.grown hp hT hg,h4⟩;unfold In4;rw [hg.block N h1.lt (by simpa using hne)]
 exact h1
set_option maxRecDepth 100000
open Go.RowKit
set_option linter.unusedVariables false
theorem zqbd {a b c:World} {N:Nat} {row:Option Nat} (h:a.grownBy b (some N)) (k:b.grownBy c row) (hr:∀ g,row = some g → a.heap.size ≤ g):a.grownBy c (some N) :=
 ⟨k.os.trans h.os,k.tape.trans h.tape,k.output.trans h.output,Nat.le_trans h.size k.size,fun i hi hn => (k.block i (Nat.lt_of_lt_of_le hi h.size) (fun e => by have e2:=hr i e.symm; omega)).trans (h.block i hi hn)⟩
theorem zqd4 {w w':World} {B E sz n N:Nat} {v:Value} {xs:List Value} (h:w.ownsRow B E sz v n xs) (hg:w.grownBy w' (some N)) (hN:N < B):w'.ownsRow B E sz v n xs:=by
 refine h.kept hg ?_;cases hv:v.ownBlock with
 | none => exact .inl rfl
 | some g => right; intro e; have e2:=Option.some.inj e; have:=(h.lt g hv).1; omega
theorem InAt.own {w w':World} {N:Nat} {b:List Int} {p e B E sz n:Nat} {v:Value} {xs:List Value} (h:InAt w N b p e) (ho:w.ownsRow B E sz v n xs) (hE:E ≠ 5) (hN:N < B) (hg:w.grownBy w' v.ownBlock):InAt w' N b p e:=by
 rcases ho.2 with ⟨rfl,-⟩ | ⟨g,cap,cur,rfl,h2,h3,-⟩
 ·exact h.below ((Below.refl _ _).grown hg (Nat.le_refl _) (fun k hk => by simp [Value.ownBlock] at hk))
 ·exact h.far h3 hE (by omega) hg
def cellsD (ds:List (ByteArray × Int)):List Value:=ds.flatMap fun d => [.string d.1,.int .i64 d.2]
abbrev DOwn (w:World) (B:Nat) (v:Value) (ds:List (ByteArray × Int)):Prop:=w.ownsRow B 50 2 v ds.length (cellsD ds)
theorem zqiq:∀ (ds:List (ByteArray × Int)) (i:Nat),i < ds.length → (cellsD ds)[i * 2]? = some (.string (dn ds i)) ∧ (cellsD ds)[i * 2 + 1]? = some (.int .i64 (dz ds i))
 | [],i,h => by simp at h
 | d :: ds,0,_ => by simp [cellsD,dn,dz]
 | d :: ds,i + 1,h => by
  have ih:=zqiq ds i (by simpa using h)
  have e:cellsD (d :: ds) = .string d.1 :: .int .i64 d.2 :: cellsD ds:=by simp [cellsD]
  have e1:(i + 1) * 2 = i * 2 + 1 + 1:=by omega
  rw [e,e1];simp only [List.getElem?_cons_succ];refine ⟨ih.1.trans ?_,ih.2.trans ?_⟩
  ·simp [dn]
  ·simp [dz]
theorem Dims.own {w:World} {B:Nat} {v:Value} {ds:List (ByteArray × Int)} (h:DOwn w B v ds):Dims w v ds:=by
 obtain ⟨hl,h⟩:=h;rcases h with ⟨rfl,h0⟩ | ⟨g,cap,cur,rfl,_,hb,hnc,hm,hs,ht⟩
 ·have:ds = []:=List.length_eq_zero_iff.1 h0;subst this;exact ⟨none,0,rfl,by simp,by simp,.inl rfl⟩
 ·refine ⟨_,cap,rfl,hnc,by unfold maxLen at hm; omega,.inr ⟨g,0,rfl,(Array.getElem?_eq_some_iff.1 hb).1,fun i hi => ?_⟩⟩
  obtain ⟨c0,c1⟩:=zqiq ds i hi;rw [← ht,List.getElem?_take,if_pos (by omega)] at c0 c1
  refine ⟨?_,?_⟩
  ·rw [Nat.zero_add,cell_of_row _ _ (i * 2) _ _ (0,0) hb];simpa using c0
  ·rw [Nat.zero_add,cell_of_row _ _ (i * 2 + 1) _ _ (0,0) hb];simpa using c1
set_option maxRecDepth 100000
open Go.RowKit
set_option linter.unusedVariables false
theorem Box.set0 {w:World} {K:Nat} {D I M V u:Value} (h:Box w K D I M V):Box (w.setCell ⟨K,0,none⟩ u) K u I M V:=heap_setCell_same w K 0 _ _ u h
theorem Box.set1 {w:World} {K:Nat} {D I M V u:Value} (h:Box w K D I M V):Box (w.setCell ⟨K,1,none⟩ u) K D u M V:=heap_setCell_same w K 1 _ _ u h
theorem Box.free {w:World} {N:Nat} {D I M V:Value} (h:Box w N D I M V):w.frozen? ⟨N,0,none⟩ = false ∧ w.frozen? ⟨N,1,none⟩ = false ∧ w.frozen? ⟨N,2,none⟩ = false ∧ w.frozen? ⟨N,3,none⟩ = false:=by
 unfold Box at h;refine ⟨by simp [World.frozen?,h],by simp [World.frozen?,h],by simp [World.frozen?,h],by simp [World.frozen?,h]⟩
theorem Box.grown {w w':World} {K N:Nat} {D I M V:Value} (h:Box w K D I M V) (hg:w.grownBy w' (some N)) (hne:K ≠ N):Box w' K D I M V:=by
 unfold Box; rw [hg.block K h.lt (by simpa using hne)]; exact h
set_option maxRecDepth 100000
open Go.RowKit
set_option linter.unusedVariables false
end Go.Proofs.YtafmghloohhaeaaGreatDoor
namespace Go.Proofs.YtafmghloohhaeaaGreatDoor
set_option maxRecDepth 100000
open Go.RowKit
set_option linter.unusedVariables false
theorem zqgc {S:Sc} (h:checkL S = 0):cntB S = true ∧ sizB S.ds = true ∧ vieB (fullL S.ds) S.vs = true:=by
 unfold checkL at h
 split at h
 ·cases h
 ·rename_i h1
  split at h
  ·cases h
  ·split at h
   ·cases h
   ·split at h
    ·cases h
    ·rename_i h2
     split at h
     ·cases h
     ·rename_i h3;exact ⟨by simpa using h1,by simpa using h2,by simpa using h3⟩
def keysL (ds:List (ByteArray × Int)) (m:Int):Nat → Int
 | 0 => 1
 | k + 1 => if m / 2 ^ k % 2 = 1 then keysL ds m k * dz ds k else keysL ds m k
theorem zqef {ds:List (ByteArray × Int)} (h:sizB ds = true):∀ k,k ≤ ds.length → 1 ≤ prodL (ds.take k) ∧ prodL (ds.take k) ≤ 1099511627776
 | 0,_ => by simp [prodL]
 | k + 1,hk => by
  have i:=zqef h k (by omega)
  have s:=zqcy h (k:=k) (by omega)
  refine ⟨?_,s.2.2⟩;rw [zqew (by omega)]
  have:=Int.mul_le_mul i.1 s.1 (by omega) (by omega)
  omega
theorem zqd1 {ds:List (ByteArray × Int)} (m:Int) (h:sizB ds = true):∀ k,k ≤ ds.length → 1 ≤ keysL ds m k ∧ keysL ds m k ≤ prodL (ds.take k)
 | 0,_ => by simp [prodL,keysL]
 | k + 1,hk => by
  have i:=zqd1 m h k (by omega)
  have s:=zqcy h (k:=k) (by omega)
  have p:=zqef h k (by omega)
  rw [zqew (by omega)]
  unfold keysL;have e1:=Int.mul_le_mul i.1 s.1 (by omega) (by omega)
  have e2:=Int.mul_le_mul_of_nonneg_right i.2 (show 0 ≤ dz ds k by omega)
  have e3:=Int.mul_le_mul (Int.le_refl (prodL (ds.take k))) s.1 (by omega) (by omega)
  split
  ·constructor <;> omega
  ·constructor <;> omega
theorem zqkb {k:IntKind} {w:World} {x:Int} {T:TypeId} {N:Nat} (hN:w.heap.size = N):Ints k (w.alloc (.cells #[.int k x] T)) (.slice (some ⟨N,0,none⟩) 1 1) [x]:=by
 subst hN;refine ⟨_,_,rfl,Nat.le_refl _,.inr ⟨w.heap.size,0,rfl,by simp,fun i hi => ?_⟩⟩
 have h0:i = 0:=by simp at hi; omega
 subst h0;simp [go_sem]
theorem zqkh {x:Int} (h0:0 ≤ x) (h1:x ≤ 4294967295):(bits .and .u32 x 1 == 1) = decide (x % 2 = 1):=by
 rw [u32_and x 1 h0 (by omega) (by decide) (by decide)]
 have e:x.toNat &&& (1:Int).toNat = x.toNat % 2:=Nat.and_one_is_mod _;rw [e,Bool.eq_iff_iff];simp;omega
theorem zqdq {m:Int} (m0:0 ≤ m) (m1:m ≤ 4294967295) (k:Nat):0 ≤ m / 2 ^ k ∧ m / 2 ^ k ≤ 4294967295:=by
 have hp:(0:Int) < 2 ^ k:=Int.pow_pos (by decide)
 refine ⟨Int.ediv_nonneg m0 (by omega),?_⟩
 have:=Int.ediv_le_self (b:=2 ^ k) m0;omega
set_option maxHeartbeats 4000000 in
theorem zqmr (w:World) (D I M V:Value) (S:Sc) (m:Int) (h:Sch4 w D I M V S) (hw:SWf S) (m0:0 ≤ m) (m1:m ≤ 4294967295) :
  Calls Tryz.prog 26 #[SchV D I M V,.int .u32 m] w fun e w' => e = .returned (.tuple #[.int .u64 (if checkL S = 0 ∧ m ≤ fullL S.ds then keysL S.ds m S.ds.length else 0),.bool (decide (checkL S = 0 ∧ m ≤ fullL S.ds))]) ∧ Below w.heap.size w w':=by
 have HB0:=zh (zqab w (SchO D I M V));have hx0:=zqa7 w D I M V;have HC:=zh (fun w1 (hb:Below w.heap.size w w1) => zqgb w1 D I M V S (h.below hb) hw)
 have HF:=zh (fun w1 (hb:Below w.heap.size w w1) (hn:S.ds.length ≤ 6) => zql3 w1 D I M V S (h.below hb) hn)
 have HX:=zh hx0;have HH:=zh h;obtain ⟨⟨a,c,rfl⟩,⟨a2,c2,rfl⟩,⟨a3,c3,rfl⟩,a4,c4,rfl⟩:=h.slices;clear h hw hx0
 by_cases hc:checkL S = 0
 ·rw [hc] at HC;have hck:=zqgc hc;have hn:=(zqcf.1 hck.1).2.1;have hA:=zqhe hn m0 m1;have he:(2:Int) ^ S.ds.length - 1 = fullL S.ds:=rfl;have he2:(2:Int) ^ S.ds.length = fullL S.ds + 1:=by omega
  rw [he,he2] at hA;have hHH:=HH.out.d;obtain ⟨a',cap',e',h1,h2,h3⟩:=hHH;obtain ⟨rfl,rfl⟩:a = a' ∧ c = cap':=by injection e' with e1 e2 e3; exact ⟨e1,e3⟩
  have hpos:=(zqcf.1 hck.1).1;rcases h3 with h3 | ⟨b,off,rfl,hlt,hcell⟩
  ·rw [h3] at hpos; simp at hpos
  have HCE:=zh hcell;have HKn:=zh (fun k => show keysL S.ds m (k + 1) = if m / 2 ^ k % 2 = 1 then keysL S.ds m k * dz S.ds k else keysL S.ds m k from rfl)
  have HR:=zh (fun k hk => And.intro (zqd1 m hck.2.1 k hk) (zqef hck.2.1 k hk))
  have HZ:=zh (fun k (hk:k < S.ds.length) => zqcy hck.2.1 hk)
  clear hcell e' he he2
  by_cases hm:m ≤ fullL S.ds
  ·have e1:checkL S = 0 ∧ m ≤ fullL S.ds:=⟨hc,hm⟩;rw [if_pos e1,decide_eq_true e1];rw [decide_eq_false (by omega)] at hA
   generalize fullL S.ds = fu at *;clear hm e1 hc hck;go_enter Tryz.func26,Tryz.ntmps26;go_wp2_with fail;refine (HC.out _ HB0.out).mono ?_; rintro e w1 ⟨rfl,hb⟩;have HB1:=zh (zqaa HB0.out hb);obtain ⟨x0,x1,x2,x3⟩:=(HX.out.below hb).reads;clear hb;go_wp2_with fail;refine (HF.out _ HB1.out hn).mono ?_; rintro e w2 ⟨rfl,hb⟩;have HB2:=zh (zqaa HB1.out hb);obtain ⟨y0,y1,y2,y3⟩:=zqbh hb ⟨x0,x1,x2,x3⟩;clear hb x0 x1 x2 x3;go_wp2_with fail;clear hA;go_loopw [6,22] (fun pv i wr => ∃ k:Nat,k ≤ S.ds.length ∧ i = .int .i64 k ∧ (∃ p:Int,pv = .int .u64 p ∧ 1 ≤ p ∧ p ≤ 1099511627776 ∧ Hid (p = keysL S.ds m k)) ∧ Hid (Below w.heap.size w wr)) (fun _ i _ => S.ds.length - (intOf i).toNat)
   case atStart => exact ⟨0,Nat.zero_le _,rfl,⟨1,rfl,by decide,by decide,zh rfl⟩,HB2⟩
   case round =>
    obtain ⟨k,hk,rfl,⟨p,rfl,hp0,hp1,HE⟩,HB⟩:=hrel
    by_cases hlk:k < S.ds.length
    ·obtain ⟨c0,c1⟩:=HCE.out k hlk;have c0:wr.cell? ⟨b,off + k * 2,none⟩ = _:=(HB.out.cell (p:=⟨b,off + k * 2,none⟩) hlt).trans c0;have c1:wr.cell? ⟨b,off + k * 2 + 1,none⟩ = _:=(HB.out.cell (p:=⟨b,off + k * 2 + 1,none⟩) hlt).trans c1;have HKk:=zh (HKn.out k);have hz:=HZ.out k hlk;have hr:=HR.out (k + 1) (by omega)
     have hBs:=HB.out.size;have HB1':=zh (HB.out.alloc hBs (.cells #[.string (dn S.ds k),.int .i64 (dz S.ds k)] 50));have hq:=zqex hp0 hp1 hz.1 hz.2.1;have HRk:=zh (show 1 ≤ keysL S.ds m (k + 1) ∧ keysL S.ds m (k + 1) ≤ 1099511627776 by omega)
     generalize dn S.ds k = x at *;generalize dz S.ds k = z at *;have i1:IntKind.u64.wrap z = z:=by rw [IntKind.wrap_u64]; omega
     have i2:IntKind.u64.wrap (p * z) = p * z:=by rw [IntKind.wrap_u64]; omega
     have hb1:=zqkh (zqdq m0 m1 k).1 (zqdq m0 m1 k).2;rw [← HE.out] at HKk;have HE3:=zh hq;clear hr hz hq
     by_cases hbit:m / 2 ^ k % 2 = 1
     ·rw [decide_eq_true hbit] at hb1;rw [if_pos hbit] at HKk;clear hbit;go_wp2_with fail;go_roundw
      case rel => exact ⟨k + 1,by omega,by go_num,⟨p * z,rfl,HE3.out.1,by rw [← HKk.out]; exact HRk.out.2,zh HKk.out.symm⟩,HB1'⟩
      case measure => simp [intOf]; omega
     ·rw [decide_eq_false hbit] at hb1;rw [if_neg hbit] at HKk;clear hbit;go_wp2_with fail;go_roundw
      case rel => exact ⟨k + 1,by omega,by go_num,⟨p,rfl,hp0,hp1,zh HKk.out.symm⟩,HB1'⟩
      case measure => simp [intOf]; omega
    ·have:k = S.ds.length:=by omega
     subst this;have HE2:=zh HE.out;clear HE;go_wp2_with fail;exact bodyPost_ret (v:=.tuple #[.int .u64 p,.bool true]) (by simp [results,Tryz.results26,go_sem]) rfl ⟨by rw [HE2.out],HB.out⟩
  ·have e1:¬ (checkL S = 0 ∧ m ≤ fullL S.ds):=fun h => hm h.2
   rw [if_neg e1,decide_eq_false e1];rw [decide_eq_true (by omega)] at hA
   generalize fullL S.ds = fu at *;clear hm e1 hc hck;go_enter Tryz.func26,Tryz.ntmps26;go_wp2_with fail;refine (HC.out _ HB0.out).mono ?_; rintro e w1 ⟨rfl,hb⟩;have HB1:=zh (zqaa HB0.out hb);obtain ⟨x0,x1,x2,x3⟩:=(HX.out.below hb).reads;clear hb;go_wp2_with fail;refine (HF.out _ HB1.out hn).mono ?_; rintro e w2 ⟨rfl,hb⟩;have HB2:=zh (zqaa HB1.out hb);clear hb;go_wp2_with fail;exact bodyPost_ret (v:=.tuple #[.int .u64 0,.bool false]) (by simp [results,Tryz.results26,go_sem]) rfl ⟨rfl,HB2.out⟩
 ·have e1:¬ (checkL S = 0 ∧ m ≤ fullL S.ds):=fun h => hc h.1
  rw [if_neg e1,decide_eq_false e1];have hc2:((checkL S:Int) != 0) = true:=by simp; omega
  generalize (checkL S:Int) = ck at *;clear hc e1;go_enter Tryz.func26,Tryz.ntmps26;go_wp2_with fail;refine (HC.out _ HB0.out).mono ?_; rintro e w1 ⟨rfl,hb⟩;have HB1:=zh (zqaa HB0.out hb);clear hb;go_wp2_with fail;exact bodyPost_ret (v:=.tuple #[.int .u64 0,.bool false]) (by simp [results,Tryz.results26,go_sem]) rfl ⟨rfl,HB1.out⟩
set_option maxRecDepth 100000
open Go.RowKit
set_option linter.unusedVariables false
theorem zqgq (k:Nat):(2:Int) ^ (k + 1) = 2 * 2 ^ k:=by rw [Int.pow_succ,Int.mul_comm]
theorem zqjl {k:Nat} (h:k ≤ 31):(1:Int) ≤ 2 ^ k ∧ (2:Int) ^ k ≤ 2147483648:=by
 have h1:(2:Nat) ^ k ≤ 2 ^ 31:=Nat.pow_le_pow_right (by decide) h
 have h2:0 < (2:Nat) ^ k:=Nat.pow_pos (by decide)
 have h3:((2 ^ k:Nat):Int) = 2 ^ k:=by rw [Int.natCast_pow]; rfl
 rw [← h3];omega
set_option maxHeartbeats 1000000 in
theorem zqke (w:World) (n:Nat) (hn:n ≤ 31) :
  Calls Tryz.prog 75 #[.int .i64 n] w fun e w' => e = .returned (.int .u32 (2 ^ n)) ∧ w = w':=by
 have HP:=zh (fun k (h:k ≤ 31) => @zqjl k h)
 go_enter Tryz.func75,Tryz.ntmps75;go_wp2;go_loopw [3,4] (fun x i wr => ∃ k:Nat,k ≤ n ∧ i = .int .i64 k ∧ w = wr ∧ ∃ y:Int,x = .int .u32 y ∧ 1 ≤ y ∧ y ≤ 2147483648 ∧ Hid (y = 2 ^ k)) (fun _ i _ => n - (intOf i).toNat)
 case atStart => exact ⟨0,Nat.zero_le _,rfl,rfl,1,rfl,by decide,by decide,zh rfl⟩
 case round =>
  obtain ⟨k,hk,rfl,rfl,y,rfl,y0,y1,HY⟩:=hrel
  by_cases hlk:k < n
  ·have hp:=HP.out k (by omega)
   have hp2:=HP.out (k + 1) (by omega)
   rw [zqgq,← HY.out] at hp2;have HY2:=zh (show 2 * y = 2 ^ (k + 1) by rw [zqgq,← HY.out])
   have i1:IntKind.u32.wrap (2 * y) = 2 * y:=by rw [IntKind.wrap_u32]; omega
   go_wp2;go_roundw
   case rel => exact ⟨k + 1,by omega,by go_num,by trivial,2 * y,rfl,by omega,by omega,HY2⟩
   case measure => simp [intOf]; omega
  ·have:k = n:=by omega
   subst this;have HE:=zh HY.out;clear HY;go_wp2;go_ret;rw [HE.out];exact ⟨rfl,rfl⟩
theorem zqml (w:World) (m:Int) (n:Nat) (hn:n ≤ 31) (m0:0 ≤ m) (m1:m ≤ 4294967295) :
  Calls Tryz.prog 76 #[.int .u32 m,.int .i64 n] w fun e w' => e = .returned (.bool (decide (m / 2 ^ n % 2 = 1))) ∧ w = w':=by
 have HT:=zh (zqke w n hn);have hp:=zqjl hn;have hd:=zqdq m0 m1 n;have hr:(m / 2 ^ n).tmod 2 = m / 2 ^ n % 2:=Int.tmod_eq_emod_of_nonneg hd.1;have hq:m.tdiv (2 ^ n) = m / 2 ^ n:=Int.tdiv_eq_ediv_of_nonneg m0;generalize (2:Int) ^ n = p at *;go_enter Tryz.func76,Tryz.ntmps76;go_wp2_with fail;refine (HT.out).mono ?_; rintro e w1 ⟨rfl,rfl⟩;go_wp2_with fail;go_ret;exact ⟨rfl,rfl⟩
theorem zqv3 {n i:Nat} (hn:n ≤ 6) (hi:i ≤ 31):((2:Int) ^ n - 1) / 2 ^ i % 2 = 1 ↔ i < n:=by
 have key:∀ n,n < 7 → ∀ i,i < 32 → (((2:Int) ^ n - 1) / 2 ^ i % 2 = 1 ↔ i < n):=by decide
 exact key n (by omega) i (by omega)
theorem zqr5 {m:Int} {n:Nat} (m0:0 ≤ m) (m1:m ≤ 4294967295) (h:∀ i,i < 32 → m / 2 ^ i % 2 = 1 → i < n):m < 2 ^ n:=by
 obtain ⟨M,rfl⟩:∃ M:Nat,m = M:=⟨m.toNat,by omega⟩
 have hlt:M < 2 ^ n:=by
  refine Nat.lt_pow_two_of_testBit M fun i hi => ?_
  by_cases h32:i < 32
  ·by_cases hb:M.testBit i = true
   ·exfalso;have h2:(M:Int) / 2 ^ i % 2 = 1:=by
     rw [Nat.testBit_eq_decide_div_mod_eq] at hb;have:=of_decide_eq_true hb;have e:((2 ^ i:Nat):Int) = 2 ^ i:=by rw [Int.natCast_pow]; rfl
     rw [← e];omega
    have:=h i h32 h2;omega
   ·simpa using hb
  ·exact Nat.testBit_lt_two_pow (Nat.lt_of_lt_of_le (show M < 2 ^ 32 by omega) (Nat.pow_le_pow_right (by decide) (by omega)))
 have e:((2 ^ n:Nat):Int) = 2 ^ n:=by rw [Int.natCast_pow]; rfl
 rw [← e]; omega
theorem zqx6 {m:Int} {n i:Nat} (m0:0 ≤ m) (hm:m < 2 ^ n) (h:n ≤ i):m / 2 ^ i % 2 = 0:=by
 have h1:(2:Nat) ^ n ≤ 2 ^ i:=Nat.pow_le_pow_right (by decide) h
 have h2:((2 ^ n:Nat):Int) = 2 ^ n:=by rw [Int.natCast_pow]; rfl
 have h3:((2 ^ i:Nat):Int) = 2 ^ i:=by rw [Int.natCast_pow]; rfl
 have hp:(2:Int) ^ n ≤ 2 ^ i:=by rw [← h2,← h3]; omega
 rw [Int.ediv_eq_zero_of_lt m0 (by omega)]
 rfl
set_option maxHeartbeats 2000000 in
theorem zqm8 (w:World) (m:Int) (n:Nat) (hn:n ≤ 6) (m0:0 ≤ m) (m1:m ≤ 4294967295) :
  Calls Tryz.prog 34 #[.int .u32 m,.int .u32 (2 ^ n - 1)] w fun e w' => e = .returned (.bool (decide (m < 2 ^ n))) ∧ w = w':=by
 have hf:=zqct hn;have HA:=zh (fun i (hi:i ≤ 31) => zqml w m i hi m0 m1)
 have HF:=zh (fun i (hi:i ≤ 31) => zqml w (2 ^ n - 1) i hi hf.2.1 (by omega))
 have HB:=zh (fun i (hi:i ≤ 31) => zqv3 hn hi)
 have HP:=zh (fun h => @zqr5 m n m0 m1 h)
 have HH:=zh (fun i hm h => @zqx6 m n i m0 hm h)
 generalize (2:Int) ^ n - 1 = f at *;generalize hr:decide (m < 2 ^ n) = r;have HR:=zh hr;clear hr hf;go_enter Tryz.func34,Tryz.ntmps34;go_wp2;go_loopw [5] (fun i wr => ∃ k:Nat,k ≤ 32 ∧ i = .int .i64 k ∧ w = wr ∧ Hid (∀ j,j < k → m / 2 ^ j % 2 = 1 → j < n)) (fun i _ => 32 - (intOf i).toNat)
 case atStart => exact ⟨0,Nat.zero_le _,rfl,rfl,zh (fun j hj => by omega)⟩
 case round =>
  obtain ⟨k,hk,rfl,rfl,HJ⟩:=hrel
  by_cases hlk:k < 32
  ·have hlk':(k:Int) < 32:=by omega
   have HAk:=zh (HA.out k (by omega))
   have HFk:=zh (HF.out k (by omega))
   have HBk:=zh (HB.out k (by omega))
   by_cases h1:m / 2 ^ k % 2 = 1
   ·rw [decide_eq_true h1] at HAk
    by_cases h2:k < n
    ·rw [decide_eq_true (HBk.out.2 h2)] at HFk;have HJ2:=zh (show ∀ j,j < k + 1 → m / 2 ^ j % 2 = 1 → j < n from fun j hj hb => if e:j = k then e ▸ h2 else HJ.out j (by omega) hb)
     clear h1 h2 HBk;go_wp2_with fail;refine (HAk.out).mono ?_; rintro e w1 ⟨rfl,rfl⟩;go_wp2_with fail;refine (HFk.out).mono ?_; rintro e w1 ⟨rfl,rfl⟩;go_wp2_with fail;go_roundw
     case rel => exact ⟨k + 1,by omega,by go_num,by trivial,HJ2⟩
     case measure => simp [intOf]; omega
    ·rw [decide_eq_false (fun h => h2 (HBk.out.1 h))] at HFk
     have HE:=zh (show r = false by
      rw [← HR.out];refine decide_eq_false fun hm => ?_
      have:=HH.out k hm (by omega)
      omega)
     clear h1 h2 HBk;go_wp2_with fail;refine (HAk.out).mono ?_; rintro e w1 ⟨rfl,rfl⟩;go_wp2_with fail;refine (HFk.out).mono ?_; rintro e w1 ⟨rfl,rfl⟩;go_wp2_with fail;go_ret;rw [HE.out];exact ⟨rfl,rfl⟩
   ·rw [decide_eq_false h1] at HAk;have HJ2:=zh (show ∀ j,j < k + 1 → m / 2 ^ j % 2 = 1 → j < n from fun j hj hb => if e:j = k then absurd (e ▸ hb) h1 else HJ.out j (by omega) hb)
    clear h1 HBk;go_wp2_with fail;refine (HAk.out).mono ?_; rintro e w1 ⟨rfl,rfl⟩;go_wp2_with fail;go_roundw
    case rel => exact ⟨k + 1,by omega,by go_num,by trivial,HJ2⟩
    case measure => simp [intOf]; omega
  ·have:k = 32:=by omega
   subst this;have HE:=zh (show r = true by rw [← HR.out]; exact decide_eq_true (HP.out HJ.out))
   go_wp2_with fail;go_ret;rw [HE.out];exact ⟨rfl,rfl⟩
set_option maxRecDepth 100000
open Go.RowKit
set_option linter.unusedVariables false
theorem zquz (w:World) (D I M V:Value) (S:Sc) (h:Sch4 w D I M V S) (hn:S.ds.length ≤ 6) :
  Calls Tryz.prog 35 #[SchV D I M V] w fun e w' => e = .returned (.int .u32 (fullL S.ds)) ∧ Below w.heap.size w w':=by
 obtain ⟨⟨a,c,rfl⟩,-,-,-⟩:=h.slices;have HB:=zh (zqab w (SchO (.slice a S.ds.length c) I M V));have HT:=zh (fun w => zqke w S.ds.length (by omega))
 have hf:=zqct hn;have hf0:IntKind.u32.wrap ((2:Int) ^ S.ds.length - 1) = 2 ^ S.ds.length - 1:=by rw [IntKind.wrap_u32]; exact hf.1
 have HE:=zh (show fullL S.ds = 2 ^ S.ds.length - 1 from rfl);clear h hf;generalize (2:Int) ^ S.ds.length = p at *;rw [HE.out];go_enter Tryz.func35,Tryz.ntmps35;go_wp2_with fail;refine (HT.out _).mono ?_; rintro e w1 ⟨rfl,rfl⟩;go_wp2_with fail;go_ret;exact ⟨rfl,HB.out⟩
end Go.Proofs.YtafmghloohhaeaaGreatDoor
