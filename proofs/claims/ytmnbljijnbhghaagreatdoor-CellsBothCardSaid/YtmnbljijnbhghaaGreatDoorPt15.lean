/- Contracts that the law leans on: Exi Exk. -/
import Derived.Deep.AppendLies
import Derived.ChangeSlices
import Derived.Test.YtmnbljijnbhghaaGreatDoorPt02
import Derived.Test.YtmnbljijnbhghaaGreatDoorPt11
import Derived.Test.YtmnbljijnbhghaaGreatDoorPt14
namespace Go.Proofs.YtmnbljijnbhghaaGreatDoor
set_option maxRecDepth 100000
open Go.RowKit
set_option linter.unusedVariables false
def b4 (x:Int):List Int:=[x / 16777216,x / 65536 % 256,x / 256 % 256,x % 256]
def Bt5 (l:List Int):Prop:=∀ x ∈ l,0 ≤ x ∧ x ≤ 255
theorem b4_bt {x:Int} (h0:0 ≤ x) (h1:x ≤ 4294967295):Bt5 (b4 x):=by
 intro y hy; simp [b4] at hy; omega
abbrev BOwn5 (w:World) (B:Nat) (v:Value) (l:List Int):Prop:=w.ownsRow B 5 1 v l.length (l.map (Value.int .u8))
theorem zqt3 {B:Nat} {w wr w1:World} {o v':Value} {l m:List Int} {ob:Obj} (hB:B ≤ wr.heap.size) (hnx:Below B w wr) (hown:BOwn5 wr B o l)
  (hown':w1.ownsRow B 5 1 v' (l.length + m.length) (l.map (Value.int .u8) ++ m.map (Value.int .u8))) (hg:(wr.alloc ob).grownBy w1 o.ownBlock):BOwn5 w1 B v' (l ++ m) ∧ Below B w w1:=by
 refine ⟨?_,(hnx.alloc hB ob).grown hg (by simp; omega) (fun k hk => (hown.lt k hk).1)⟩
 unfold BOwn5;rw [List.length_append,List.map_append]; exact hown'
set_option maxHeartbeats 1000000 in
theorem zqhe (v:Value) (l:List Int) (x:Int) (B:Nat) (w:World) (h:BOwn5 w B v l) (hB:B ≤ w.heap.size) (hl:l.length ≤ 100000) (h0:0 ≤ x) (h1:x ≤ 4294967295) :
  Calls Tryz.prog 173 #[v,.int .u32 x] w fun e w' => (∃ v',e = .returned v' ∧ BOwn5 w' B v' (l ++ b4 x)) ∧ Below B w w':=by
 obtain ⟨i0,hi,hz0,hz1,hz2⟩:=info_parts Tryz.infoU8;have HO:=zh h;obtain ⟨a,cap,rfl⟩:=zqbr h;have hm:l.length + 4 ≤ maxLen:=by unfold maxLen; omega
 clear h;go_enter Tryz.func173,Tryz.ntmps173;go_wp2_with (at_builtin; refine wpList_append_own _ rfl _ _ 87 rfl B 5 i0 (.int .u8 0) 1 1 Tryz.underlying87 hi hz0 hz1 hz2 rfl (by decide) _ _ _ rfl (HO.out.alloc _) ⟨w.heap.size,0,none⟩ 4 4 [.int .u8 (x / 16777216),.int .u8 (x / 65536 % 256),.int .u8 (x / 256 % 256),.int .u8 (x % 256)] rfl rfl (World.news_of_block (heap_alloc_new w _)) (by simp [Value.oneCell']) hm (by omega) (by simp; omega) ?_; intro v' w1 hown' hgrow _)
 have hP:=zqt3 (m:=b4 x) hB (Below.refl B w) HO.out hown' hgrow;clear hown' hgrow HO;go_wp2_with fail;go_ret;exact ⟨⟨v',rfl,hP.1⟩,hP.2⟩
def lowW:List Int → Nat
 | [] => 0
 | x :: l => if x = 0 then lowW l + 1 else 0
theorem zqc1:∀ a:List Int,lowW a ≤ a.length
 | [] => Nat.le_refl _
 | x :: l => by have:=zqc1 l; unfold lowW; split <;> simp <;> omega
theorem zqbp:∀ (a:List Int) (j:Nat),j < lowW a → a.getD j 0 = 0
 | [],j,h => by simp
 | x :: l,j,h => by
  unfold lowW at h
  split at h
  ·rename_i hx;cases j with
   | zero => simpa using hx
   | succ j => have:=zqbp l j (by omega); simpa using this
  ·omega
theorem zqg4:∀ (a:List Int),lowW a < a.length → a.getD (lowW a) 0 ≠ 0
 | [],h => by simp at h
 | x :: l,h => by
  unfold lowW at h ⊢
  split
  ·rename_i hx;rw [if_pos hx] at h;have:=zqg4 l (by simpa using h)
   simpa using this
  ·rename_i hx; simpa using hx
theorem zqyt {a:List Int} (ht:Tidy a) (hne:a ≠ []):lowW a < a.length:=by
 have h1:=zqc1 a;rcases ht with h | h
 ·exact absurd h hne
 ·have hl:0 < a.length:=List.length_pos_iff.2 hne;apply Classical.byContradiction;intro hh;exact h (zqbp a _ (by omega))
theorem zqom {a:List Int} {k:Nat} (h1:∀ j,j < k → a.getD j 0 = 0) (h2:a.getD k 0 ≠ 0):lowW a = k:=by
 have hk:k < a.length:=by
  apply Classical.byContradiction;intro hh;exact h2 (by simp [List.getD,List.getElem?_eq_none (Nat.le_of_not_lt hh)])
 rcases Nat.lt_trichotomy (lowW a) k with h | h | h
 ·exact absurd (h1 _ h) (zqg4 a (by omega))
 ·exact h
 ·exact absurd (zqbp a k h) h2
def topB (a:List Int) (k:Nat):List Int:=(List.range k).flatMap fun i => b4 (a.getD (a.length - 1 - i) 0)
theorem zqck (a:List Int) (k:Nat):topB a (k + 1) = topB a k ++ b4 (a.getD (a.length - 1 - k) 0):=by
 unfold topB; rw [List.range_succ,List.flatMap_append]; simp
theorem zqef (a:List Int) (k:Nat):(topB a k).length = 4 * k:=by
 induction k with
 | zero => rfl
 | succ k ih => rw [zqck,List.length_append,ih]; simp [b4]; omega
theorem zqzo {a:List Int} (hd:Wd a) (k:Nat):Bt5 (topB a k):=by
 intro x hx;unfold topB at hx;rw [List.mem_flatMap] at hx;obtain ⟨i,-,hi⟩:=hx;have:=hd.getD (a.length - 1 - i);exact b4_bt this.1 this.2 x hi
def encB (f:Nat) (neg:Bool) (a:List Int):List Int:=[(f:Int) + (if neg then 32 else 0),(lowW a:Int),(a.length:Int) - lowW a] ++ topB a (a.length - lowW a)
theorem zqhz (f:Nat) (neg:Bool) (a:List Int):(encB f neg a).length = 3 + 4 * (a.length - lowW a):=by
 unfold encB; rw [List.length_append,zqef]; rfl
theorem zqye {f:Nat} {neg:Bool} {a:List Int} (hf:f < 32) (hd:Wd a) (hl:a.length ≤ 70):Bt5 (encB f neg a):=by
 intro x hx;unfold encB at hx;rw [List.mem_append] at hx;rcases hx with h | h
 ·have:=zqc1 a;simp at h;rcases h with rfl | rfl | rfl
  ·split <;> omega
  ·omega
  ·omega
 ·exact zqzo hd _ x h
theorem zqq5 {a:List Int} {n:Nat} (hd:Wd a) (ht:Tidy a) (h:Halved (wv a) n):n / 32 = lowW a:=by
 by_cases hne:a = []
 ·subst hne;rcases h with ⟨-,rfl⟩ | ⟨m,hm⟩
  ·rfl
  ·have:(0:Int) < 2 ^ n * (2 * m + 1):=Int.mul_pos (Int.pow_pos (by decide)) (by omega)
   rw [← hm] at this;simp [wv,wvN] at this
 ·have hk:=zqyt ht hne;have h0:=zqg4 a hk;obtain ⟨S,hS⟩:=Int.eq_ofNat_of_zero_le (hd.getD (lowW a)).1;have hS1:S < 4294967296:=by have:=(hd.getD (lowW a)).2; omega
  have hS0:S ≠ 0:=by omega
  have h1:=zqgd hd hk (zqbp a) S hS hS0;have h2:=zql7 h h1;obtain ⟨m,hm,hlt⟩:=Lib.ctzFrom_spec 32 S (by omega) hS1
  have hc:Lib.ctz 32 S = Lib.ctzFrom 32 S:=by simp [Lib.ctz,hS0]
  rw [hc] at h2;omega
def IsEnc (f:Nat) (t:Int) (l:List Int):Prop:=∃ a,Wd a ∧ Tidy a ∧ wv a = (t.natAbs:Int) ∧ a.length ≤ 70 ∧ l = encB f (decide (t < 0)) a
theorem IsEnc.unique {f:Nat} {t:Int} {l m:List Int} (h:IsEnc f t l) (k:IsEnc f t m):l = m:=by
 obtain ⟨a,a1,a2,a3,-,rfl⟩:=h;obtain ⟨b,b1,b2,b3,-,rfl⟩:=k;rw [zqbb a1 b1 a2 b2 (by omega)]
theorem IsEnc.len {f:Nat} {t:Int} {l:List Int} (h:IsEnc f t l):3 ≤ l.length ∧ l.length ≤ 283:=by
 obtain ⟨a,-,-,-,h4,rfl⟩:=h;rw [zqhz]; omega
theorem IsEnc.bt {f:Nat} {t:Int} {l:List Int} (h:IsEnc f t l) (hf:f < 32):Bt5 l:=by
 obtain ⟨a,h1,-,-,h4,rfl⟩:=h;exact zqye hf h1 h4
theorem SumAt.enc {w:World} {N f:Nat} {t:Int} (h:SumAt w N f t):∃ l,IsEnc f t l:=by
 obtain ⟨v,-,h2,h3⟩:=h;obtain ⟨a,a1,a2,a3,a4⟩:=h2.list h3.2.2;exact ⟨_,a,a1.2.1,a2,a3,a4,rfl⟩
theorem zqbf {w:World} {B E:Nat} {v:Value} {n:Nat} {xs:List Value} (h:w.ownsRow B E 1 v n xs):∃ a l c,v = .slice a l c:=by
 obtain ⟨a,c,e⟩:=zqbr h;exact ⟨a,n,c,e⟩
theorem own3 (w:World) (B:Nat) (x y z:Int) (hB:B ≤ w.heap.size):BOwn5 (w.alloc (.cells #[.int .u8 x,.int .u8 y,.int .u8 z] 5)) B (.slice (some ⟨w.heap.size,0,none⟩) 3 3) [x,y,z] :=
 ⟨by simp,.inr ⟨w.heap.size,3,_,rfl,hB,heap_alloc_new w _,by simp,by decide,by simp,by simp⟩⟩
theorem or32:∀ f:Nat,f < 32 → f ||| 32 = f + 32:=by decide +kernel
def BytesP5 (w:World) (l:List Int) (e:Ending) (w':World):Prop:=(∃ v,e = .returned v ∧ BOwn5 w' w.heap.size v l) ∧ Below w.heap.size w w'
set_option maxHeartbeats 4000000 in
theorem zqjl (w:World) (N f:Nat) (t:Int) (l:List Int) (hs:SumAt w N f t) (hl:IsEnc f t l) (hT:Tab w) :
  Calls Tryz.prog 147 #[.pointer (some ⟨N,0,none⟩)] w (BytesP5 w l):=by
 have HU:=zh (show Calls Tryz.prog 171 #[.pointer (some ⟨N,0,none⟩)] w fun e w' => e = .returned (.bool true) ∧ w = w' by obtain ⟨v,h,-⟩:=hs; exact zqb6 w N _ _ _ _ h)
 obtain ⟨v,c1,m1,hg⟩:=hs;obtain ⟨a,ha,ht,hz,hn⟩:=m1.list hg.2.2;obtain ⟨a',d1,d2,d3,-,hl⟩:=hl;obtain rfl:a' = a:=zqbb d1 ha.2.1 d2 ht (by omega)
 have HNo:=zh (show Calls Tryz.prog 172 #[v] w fun e w' => ∃ n:Nat,e = .returned (.int .i64 n) ∧ (n:Int) / 32 = lowW a' ∧ w = w' from (zqon v a' w ha hT).mono fun e w' ⟨n,h1,h2,h3⟩ => ⟨n,h1,by have:=zqq5 d1 d2 h2; omega,h3⟩)
 have hlw:=zqc1 a';have HA:=zh (fun w1 (h:Below w.heap.size w w1) => ha.below h)
 have HC:=zh (fun w1 (h:Below w.heap.size w w1) => c1.below h)
 have HX:=zh (fun k => d1.getD k)
 unfold encB at hl;have hor:=zqld f 32 (by have:=hg.1; omega) (by decide)
 rw [or32 f hg.1] at hor;have hor2:bits .or .u8 (f:Int) 32 = (f:Int) + 32:=by simpa using hor
 have hf:=hg.1;have HTB:=zh (zqef a');have HTS:=zh (zqck a');obtain ⟨r0,r1,r2,-⟩:=c1.reads;obtain ⟨p,c,rfl⟩:=ha.shape;generalize topB a' = TB at *;generalize hal:a'.length = al at *;have Hal:=zh hal;generalize lowW a' = lw at *;generalize decide (t < 0) = x at *;have HL:=zh hl;clear c1 m1 hg ha ht hz d1 d2 d3 hT hor hal hl;cases x
 ·clear hor2;simp only [Bool.false_eq_true,if_false,Int.add_zero] at HL;go_enter Tryz.func147,Tryz.ntmps147;go_wp2_with fail;refine (HU.out).mono ?_; rintro e w1 ⟨rfl,rfl⟩;go_wp2_with fail;refine (HNo.out).mono ?_; rintro e w1 ⟨n,rfl,hn32,rfl⟩;go_wp2_with fail;have hO:=own3 w w.heap.size ((f:Int)) lw ((al:Int) - lw) (Nat.le_refl _);have hBs:=zqab w (.cells #[.int .u8 ((f:Int)),.int .u8 lw,.int .u8 ((al:Int) - lw)] 5);clear hn32 HNo HU r0 r1 r2;have hT0:TB 0 = []:=List.length_eq_zero_iff.1 (by rw [HTB.out])
  go_loopw [6,41] (fun bv i wr => ∃ k:Nat,k ≤ al - lw ∧ i = .int .i64 k ∧ Hid (BOwn5 wr w.heap.size bv ([(f:Int),(lw:Int),(al:Int) - lw] ++ TB k)) ∧ Hid (Below w.heap.size w wr)) (fun _ i _ => (al - lw) - (intOf i).toNat)
  case atStart => exact ⟨0,Nat.zero_le _,rfl,zh (by rw [hT0,List.append_nil]; exact hO),zh hBs⟩
  case round =>
   obtain ⟨k,hk,rfl,hown,hb⟩:=hrel;clear hO hBs hT0
   by_cases hlt:k < al - lw
   ·obtain ⟨b,off,hp,hbl,hcell⟩:=(HA.out w (Below.refl _ _)).1.cell (i:=al - 1 - k) (by rw [Hal.out]; omega)
    have hx:=HX.out (al - 1 - k);have hT1:=HTS.out k;obtain ⟨j,hj⟩:∃ j,al - 1 - k = j:=⟨_,rfl⟩
    rw [hj] at hx hcell hT1;have hlen:=HTB.out k;generalize a'.getD j 0 = z at *;have HT1:=zh hT1;have hc:=hb.out.cell (p:=⟨b,off + j,none⟩) hbl;rw [hcell] at hc;have hN:N < w.heap.size:=(HC.out w (Below.refl _ _)).lt;have hr:=(HC.out w (Below.refl _ _)).reads.1;have hcN:=hb.out.cell (p:=⟨N,0,none⟩) hN;rw [hr] at hcN;have hln:([(f:Int),(lw:Int),(al:Int) - lw] ++ TB k).length ≤ 100000:=by simp [hlen]; omega
    have HLn:=zh hln;obtain ⟨q1,q2⟩:=hx;subst hp;clear hcell hT1 hlen hr hln;have i1:(k:Int) < (al:Int) - lw:=by omega
    have i2:(0:Int) ≤ (j:Int):=by omega
    have i3:(j:Int) < (al:Int):=by omega
    have hsz:=hb.out.size;have hown2:=zh (show BOwn5 wr.drew w.heap.size _ _ from hown.out);have i5:IntKind.i64.wrap ((al:Int) - 1) = (al:Int) - 1:=IntWalk.i64_in _ (by omega)
    have i6:IntKind.i64.wrap ((al:Int) - 1 - k) = (j:Int):=by rw [IntWalk.i64_in _ (by omega)]; omega
    clear hj;go_upto_region 12 with fail;have hk2:wr.drew.cell? ⟨N,0,none⟩ = some (.slice (some ⟨b,off,none⟩) al c) ∧ wr.drew.cell? ⟨b,off + j,none⟩ = some (.int .u32 z):=⟨by simp [hcN],by simp [hc]⟩
    go_region_held3 (fun w' => w'.cell? ⟨N,0,none⟩ = some (.slice (some ⟨b,off,none⟩) al c) ∧ w'.cell? ⟨b,off + j,none⟩ = some (.int .u32 z)) (with_reducible exact hk2)
     ((go_at_call 173; refine (zqhe _ _ z w.heap.size _ hown2.out hsz HLn.out q1 q2).mono ?_; rintro e w2 ⟨⟨v',rfl,ho⟩,hb2⟩; have hk2:=And.intro ((hb2.cell (p:=⟨N,0,none⟩) hN).trans hk2.1) ((hb2.cell (p:=⟨b,off + j,none⟩) hbl).trans hk2.2); have HO2:=zh ho; have HB2:=zh (hb.out.trans ((Below.refl _ _).drew.trans hb2)); obtain ⟨pa,pl,pc,rfl⟩:=zqbf ho; clear ho hb2))
    clear hk2 i2 i3 i5 i6 hc hcN hown2;go_wp2_with fail;go_roundw
    case rel => exact ⟨k + 1,by omega,by go_num,zh (by rw [HT1.out,← List.append_assoc]; exact HO2.out),HB2⟩
    case measure => simp [intOf]; omega
   ·obtain rfl:k = al - lw:=by omega
    have i1:¬ ((al - lw:Nat):Int) < (al:Int) - lw:=by omega
    obtain ⟨pa,pl,pc,rfl⟩:=zqbf hown.out;go_wp2_with fail;go_ret;exact ⟨⟨_,rfl,by rw [HL.out]; exact hown.out⟩,hb.out⟩
 ·simp only [if_true] at HL;go_enter Tryz.func147,Tryz.ntmps147;go_wp2_with fail;refine (HU.out).mono ?_; rintro e w1 ⟨rfl,rfl⟩;go_wp2_with fail;refine (HNo.out).mono ?_; rintro e w1 ⟨n,rfl,hn32,rfl⟩;go_wp2_with fail;have hO:=own3 w w.heap.size ((f:Int) + 32) lw ((al:Int) - lw) (Nat.le_refl _);have hBs:=zqab w (.cells #[.int .u8 ((f:Int) + 32),.int .u8 lw,.int .u8 ((al:Int) - lw)] 5);clear hn32 HNo HU r0 r1 r2;have hT0:TB 0 = []:=List.length_eq_zero_iff.1 (by rw [HTB.out])
  go_loopw [6,41] (fun bv i wr => ∃ k:Nat,k ≤ al - lw ∧ i = .int .i64 k ∧ Hid (BOwn5 wr w.heap.size bv ([(f:Int) + 32,(lw:Int),(al:Int) - lw] ++ TB k)) ∧ Hid (Below w.heap.size w wr)) (fun _ i _ => (al - lw) - (intOf i).toNat)
  case atStart => exact ⟨0,Nat.zero_le _,rfl,zh (by rw [hT0,List.append_nil]; exact hO),zh hBs⟩
  case round =>
   obtain ⟨k,hk,rfl,hown,hb⟩:=hrel;clear hO hBs hT0
   by_cases hlt:k < al - lw
   ·obtain ⟨b,off,hp,hbl,hcell⟩:=(HA.out w (Below.refl _ _)).1.cell (i:=al - 1 - k) (by rw [Hal.out]; omega)
    have hx:=HX.out (al - 1 - k);have hT1:=HTS.out k;obtain ⟨j,hj⟩:∃ j,al - 1 - k = j:=⟨_,rfl⟩
    rw [hj] at hx hcell hT1;have hlen:=HTB.out k;generalize a'.getD j 0 = z at *;have HT1:=zh hT1;have hc:=hb.out.cell (p:=⟨b,off + j,none⟩) hbl;rw [hcell] at hc;have hN:N < w.heap.size:=(HC.out w (Below.refl _ _)).lt;have hr:=(HC.out w (Below.refl _ _)).reads.1;have hcN:=hb.out.cell (p:=⟨N,0,none⟩) hN;rw [hr] at hcN;have hln:([(f:Int) + 32,(lw:Int),(al:Int) - lw] ++ TB k).length ≤ 100000:=by simp [hlen]; omega
    have HLn:=zh hln;obtain ⟨q1,q2⟩:=hx;subst hp;clear hcell hT1 hlen hr hln;have i1:(k:Int) < (al:Int) - lw:=by omega
    have i2:(0:Int) ≤ (j:Int):=by omega
    have i3:(j:Int) < (al:Int):=by omega
    have hsz:=hb.out.size;have hown2:=zh (show BOwn5 wr.drew w.heap.size _ _ from hown.out);have i5:IntKind.i64.wrap ((al:Int) - 1) = (al:Int) - 1:=IntWalk.i64_in _ (by omega)
    have i6:IntKind.i64.wrap ((al:Int) - 1 - k) = (j:Int):=by rw [IntWalk.i64_in _ (by omega)]; omega
    clear hj;go_upto_region 12 with fail;have hk2:wr.drew.cell? ⟨N,0,none⟩ = some (.slice (some ⟨b,off,none⟩) al c) ∧ wr.drew.cell? ⟨b,off + j,none⟩ = some (.int .u32 z):=⟨by simp [hcN],by simp [hc]⟩
    go_region_held3 (fun w' => w'.cell? ⟨N,0,none⟩ = some (.slice (some ⟨b,off,none⟩) al c) ∧ w'.cell? ⟨b,off + j,none⟩ = some (.int .u32 z)) (with_reducible exact hk2)
     ((go_at_call 173; refine (zqhe _ _ z w.heap.size _ hown2.out hsz HLn.out q1 q2).mono ?_; rintro e w2 ⟨⟨v',rfl,ho⟩,hb2⟩; have hk2:=And.intro ((hb2.cell (p:=⟨N,0,none⟩) hN).trans hk2.1) ((hb2.cell (p:=⟨b,off + j,none⟩) hbl).trans hk2.2); have HO2:=zh ho; have HB2:=zh (hb.out.trans ((Below.refl _ _).drew.trans hb2)); obtain ⟨pa,pl,pc,rfl⟩:=zqbf ho; clear ho hb2))
    clear hk2 i2 i3 i5 i6 hc hcN hown2;go_wp2_with fail;go_roundw
    case rel => exact ⟨k + 1,by omega,by go_num,zh (by rw [HT1.out,← List.append_assoc]; exact HO2.out),HB2⟩
    case measure => simp [intOf]; omega
   ·obtain rfl:k = al - lw:=by omega
    have i1:¬ ((al - lw:Nat):Int) < (al:Int) - lw:=by omega
    obtain ⟨pa,pl,pc,rfl⟩:=zqbf hown.out;go_wp2_with fail;go_ret;exact ⟨⟨_,rfl,by rw [HL.out]; exact hown.out⟩,hb.out⟩
set_option maxRecDepth 100000
open Go.RowKit
set_option linter.unusedVariables false
set_option maxRecDepth 100000
open Go.RowKit
set_option linter.unusedVariables false
set_option maxRecDepth 100000
open Go.RowKit
set_option linter.unusedVariables false
end Go.Proofs.YtmnbljijnbhghaaGreatDoor
namespace Go.Proofs.YtmnbljijnbhghaaGreatDoor
set_option maxRecDepth 100000
open Go.RowKit Go.ChangeShapes
set_option linter.unusedVariables false
set_option maxRecDepth 100000
open Go.RowKit
set_option linter.unusedVariables false
theorem zqi9 {w w':World} {N M:Nat} (h:w.grownBy w' (some M)) (hN:N ≤ M) (hM:M < w.heap.size):Below N w w' :=
 (Below.refl N w).grown h (by omega) (fun k hk => by simp only [Option.some.injEq] at hk; omega)
end Go.Proofs.YtmnbljijnbhghaaGreatDoor
