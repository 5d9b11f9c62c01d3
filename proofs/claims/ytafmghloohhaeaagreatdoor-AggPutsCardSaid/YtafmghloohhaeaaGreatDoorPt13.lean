/- Contracts that the law leans on: Numw Awake2 Laid2 Meet Flok Flom Flor Roob Longf Ratq Refs Refv Awake4. -/
import Derived.Deep.RegionWith
import Derived.ProofKit
import Derived.LaidMore
import Derived.OpenShut
import Derived.Stop.Joined
import Derived.Lib.LaidTab
import Derived.Deep.RegionHeld3
import Derived.Deep.RegionLaw
import Derived.Deep.QuietTactic
import Derived.BigQuiet
import Derived.Outline
import Derived.Deep.DeepCutAuto
import Derived.Deep.CutBlock
import Derived.Test.YtafmghloohhaeaaGreatDoorRows
import Derived.Test.YtafmghloohhaeaaGreatDoorPt02
import Derived.Test.YtafmghloohhaeaaGreatDoorPt04
import Derived.Test.YtafmghloohhaeaaGreatDoorPt08
import Derived.Test.YtafmghloohhaeaaGreatDoorPt12
namespace Go.Proofs.YtafmghloohhaeaaGreatDoor
set_option maxRecDepth 100000
open Go.RowKit
set_option linter.unusedVariables false
theorem zqns {w w':World} (h:Below w.drew.heap.size w.drew w'):Below w.heap.size w w':=(Below.refl _ _).drew.trans h
def NumBox (w:World) (N:Nat) (z:Int) (wr:World):Prop :=
 (∃ x y,wr.cell? ⟨N,0,none⟩ = some x ∧ wr.cell? ⟨N,1,none⟩ = some y ∧ IsNum wr (.agg #[x,y]) z) ∧ Kept w N 87 wr
theorem zqjh {w w1:World} {N:Nat} {T:TypeId} (h:Kept w N T w1) (u v:Value) :
  ((w1.setCell ⟨N,0,none⟩ u).setCell ⟨N,1,none⟩ v).cell? ⟨N,0,none⟩ = some u ∧ ((w1.setCell ⟨N,0,none⟩ u).setCell ⟨N,1,none⟩ v).cell? ⟨N,1,none⟩ = some v:=by
 obtain ⟨h1,h2,x,y,h3⟩:=h;have h4:=zqkc (u:=u) (v:=v) h3;exact ⟨by simp [World.cell?,h4],by simp [World.cell?,h4]⟩
theorem zqsf {w w2:World} {N:Nat} {u s:Value} {z:Int} (hk:Kept w N 87 w2) (hq:IsNum w2 (.agg #[u,s]) z):NumBox w N z ((w2.setCell ⟨N,0,none⟩ u).setCell ⟨N,1,none⟩ s) :=
 ⟨⟨u,s,(zqjh hk u s).1,(zqjh hk u s).2,hk.num hq⟩,hk.store u s⟩
theorem Kept.far {w w1:World} {R N:Nat} {T:TypeId} (h:Kept w R T w1) (hne:R ≠ N) (hN:w.heap.size ≤ N) (u v:Value):Kept w R T ((w1.setCell ⟨N,0,none⟩ u).setCell ⟨N,1,none⟩ v):=by
 obtain ⟨h1,h2,x,y,h3⟩:=h;refine ⟨(h1.setCell hN u).setCell hN v,h2,x,y,?_⟩;rw [Below.heap_setCell _ _ _ _ hne,Below.heap_setCell _ _ _ _ hne]; exact h3
theorem NumBox.call {w w1 w2:World} {N:Nat} {z:Int} (h:NumBox w N z w1) (hb:Below w1.heap.size w1 w2):NumBox w N z w2:=by
 obtain ⟨⟨x,y,h1,h2,h3⟩,h4⟩:=h;exact ⟨⟨x,y,cell_later hb h1,cell_later hb h2,h3.below hb⟩,h4.call hb⟩
theorem NumBox.cells {w w1:World} {N:Nat} {z:Int} (h:NumBox w N z w1):∃ nb np nl nc,w1.cell? ⟨N,0,none⟩ = some (.bool nb) ∧ w1.cell? ⟨N,1,none⟩ = some (.slice np nl nc) ∧ IsNum w1 (.agg #[.bool nb,.slice np nl nc]) z:=by
 obtain ⟨⟨x,y,h1,h2,h3⟩,h4⟩:=h;obtain ⟨nb,np,nl,nc,e⟩:=h3.shape;simp only [Value.agg.injEq,Array.mk.injEq,List.cons.injEq,and_true] at e;obtain ⟨rfl,rfl⟩:=e;exact ⟨nb,np,nl,nc,h1,h2,h3⟩
theorem zqqi {w:World}:IsNum w (.agg #[.bool false,.slice none 0 0]) 0:=⟨false,_,[],rfl,⟨none,0,rfl,by simp,.inl rfl⟩,Typed.none,Dig.nil,.inl rfl,(fun e => by cases e),rfl⟩
theorem zq0a (n:Nat):(4294967296:Int) ^ n ≤ 1000 ^ (4 * n):=by
 have:(4294967296:Nat) ^ n ≤ (1000 ^ 4) ^ n:=Nat.pow_le_pow_left (by decide) n
 rw [← Nat.pow_mul] at this;have e1:((4294967296 ^ n:Nat):Int) = (4294967296:Int) ^ n:=by simp
 have e2:((1000 ^ (4 * n):Nat):Int) = (1000:Int) ^ (4 * n):=by simp
 omega
theorem zqe7 {z:Int} {n:Nat} (h0:0 ≤ z) (h1:z < 4294967296 ^ n):Sized (4 * n) z:=by
 have:=zq0a n;have:=p_pos (4 * n);unfold Sized;omega
theorem zqjk {x:Int} (h0:0 ≤ x) (h1:x ≤ 4294967296) (n:Nat):Sized (4 * n + 4) x:=by
 have h2:=zqgp (m:=4) (n:=4 * n + 4) (by omega)
 have e:(1000:Int) ^ 4 = 1000000000000:=by decide
 unfold Sized;omega
theorem zqwc {a:List Int} {n:Nat} (hn:n < a.length) (x:Int) (hx:a.getD n 0 = x):wv (a.drop n) = wv (a.drop (n + 1)) * 4294967296 + x:=by
 have:=zqkg (a:=a.drop n) (by rw [List.length_drop]; omega)
 have e:(a.drop n).getD 0 0 = x:=by rw [← hx]; simp [List.getD]
 rw [this,e,List.drop_drop]; omega
theorem zqom {a:List Int} (hd:Wd a) (n:Nat):0 ≤ wv (a.drop n) ∧ wv (a.drop n) < 4294967296 ^ a.length:=by
 have h1:=zqbb (hd.drop n);have h2:=zqgs (m:=(a.drop n).length) (n:=a.length) (by rw [List.length_drop]; omega)
 omega
set_option maxHeartbeats 2000000 in
theorem zqt4 (v:Value) (a:List Int) (w:World) (hv:WList w v a) (la:a.length ≤ 1000000) :
  Calls Tryz.prog 77 #[v] w (MadeNum w (wv a)):=by
 have HV:=zh hv;obtain ⟨p,c,rfl⟩:=hv.shape;clear hv;have HR0:=zh (And.intro ((Kept.start w (.bool false) (.slice none 0 0) 87).call (zqab _ (.cells #[.bool false,.slice none 0 0] 87)))
  (And.intro (⟨_,_,by simp [go_sem],by simp [go_sem],zqqi⟩:∃ x y,((w.alloc (.cells #[.bool false,.slice none 0 0] 87)).alloc (.cells #[.bool false,.slice none 0 0] 87)).cell? ⟨w.heap.size + 1,0,none⟩ = some x ∧ ((w.alloc (.cells #[.bool false,.slice none 0 0] 87)).alloc (.cells #[.bool false,.slice none 0 0] 87)).cell? ⟨w.heap.size + 1,1,none⟩ = some y ∧ IsNum ((w.alloc (.cells #[.bool false,.slice none 0 0] 87)).alloc (.cells #[.bool false,.slice none 0 0] 87)) (.agg #[x,y]) 0)
   (by have:=Kept.start (w.alloc (.cells #[.bool false,.slice none 0 0] 87)) (.bool false) (.slice none 0 0) 87; simp only [World.size_alloc] at this; exact this.down (zqab w _))))
 go_enter Tryz.func77,Tryz.ntmps77;go_wp2_with fail;go_loopw [4] (fun i wr => ∃ (m:Nat) (z:Int),Hid (z = (m:Int) - 1) ∧ -1 ≤ z ∧ z ≤ 1000000 ∧ m ≤ a.length ∧ i = .int .i64 z ∧ Hid (Kept w w.heap.size 87 wr ∧ NumBox w (w.heap.size + 1) (wv (a.drop m)) wr)) (fun i _ => (intOf i + 1).toNat)
 case atStart => exact ⟨a.length,_,zh rfl,by omega,by omega,Nat.le_refl _,rfl,zh ⟨HR0.out.1,by rw [List.drop_length]; exact HR0.out.2.1,HR0.out.2.2⟩⟩
 case round =>
  obtain ⟨m,z,hz,hz1,hz2,hm,rfl,hS⟩:=hrel;clear HR0
  by_cases h0:0 ≤ z
  ·obtain ⟨n,rfl⟩:∃ n,m = n + 1:=⟨m - 1,by have:=hz.out; omega⟩
   have hzn:z = (n:Int):=by have:=hz.out; omega
   clear hz;subst hzn;obtain ⟨nb,np,nl,nc,hx,hy,hnum⟩:=hS.out.2.cells;obtain ⟨b1,o1,hp1,hb1,hc⟩:=HV.out.1.cell (i:=n) hm;subst hp1;have hc:=cell_later hS.out.1.1 hc;have hi0:(0:Int) ≤ (n:Int):=by omega
   have hi1:(n:Int) < (a.length:Int):=by omega
   have dx:=HV.out.2.1.getD n;have hdv:=zh (fun (x:Int) (hx:a.getD n 0 = x) => zqwc hm x hx)
   have hr1:=zqom HV.out.2.1 n;have hr2:=zqom HV.out.2.1 (n + 1);generalize a.getD n 0 = x at *;have hdv2:=zh (hdv.out x rfl);clear hdv;have e6:IntKind.u64.wrap x = x:=by rw [IntKind.wrap_u64]; omega
   have HRg:=zh (And.intro hr1 hr2);generalize wv (a.drop (n + 1)) = H at *;have HN:=zh hnum;have HM:=zh (fun w1 q (hb:Below wr.heap.size wr w1) (hq:IsNum w1 q 4294967296) => zqz6 _ q H 4294967296 (4 * a.length + 4) w1 (HN.out.below hb) hq ((zqe7 HRg.out.2.1 HRg.out.2.2).mono (by omega)) (zqjk (by decide) (by decide) _) (by omega))
   have HA:=zh (fun w1 q y (hq:IsNum w1 q (H * 4294967296)) (hy:IsNum w1 y x) => zqz5 q y (H * 4294967296) x (4 * a.length + 4) w1 hq hy ((zqe7 (n:=a.length) (by have:=HRg.out.2.1; omega) (by have:=hdv2.out; have:=HRg.out.1.2; omega)).mono (by omega)) (zqjk dx.1 (by omega) _) (by omega))
   obtain ⟨x0,x1⟩:=dx;clear hnum hr1 hr2 hb1;go_wp2_with fail;go_region_with (first
    | (go_at_call_of 123 (4294967296:Int); refine (zqox 4294967296 _ (by decide) (by decide)).mono ?_; rintro e w1 ⟨q,rfl,hq,hb1⟩; replace hb1:=zqns hb1; have hx1:=cell_later hb1 hx; have hy1:=cell_later hb1 hy; have hc1:=cell_later hb1 hc)
    | (go_at_call 122; refine (HM.out _ _ hb1 hq).mono ?_; rintro e w2 ⟨mm,rfl,hmm,hb2⟩; have hc2:=cell_later hb2 hc1)
    | (go_at_call 123; refine (zqox x _ x0 (by omega)).mono ?_; rintro e w3 ⟨y,rfl,hyy,hb3⟩)
    | (go_at_call 121; refine (HA.out _ _ _ (hmm.below hb3) hyy).mono ?_; rintro e w4 ⟨r,rfl,hr,hb4⟩; have hb14:=hb1.trans ((hb2.trans ((hb3.trans (hb4.mono hb3.size)).mono hb2.size)).mono hb1.size); have hk4:=hS.out.2.2.call hb14; have hR4:=hS.out.1.call hb14; obtain ⟨rn,rp,rl,rc,rfl⟩:=hr.shape; obtain ⟨⟨x2,hx2⟩,⟨y2,hy2⟩,hf1,hf2⟩:=hk4.cells))
   all_goals
    have hB:=zh (zqsf hk4 hr);have hR5:=zh (hR4.far (N:=w.heap.size + 1) (by omega) (by omega) (.bool rn) (.slice rp rl rc))
    rw [← hdv2.out] at hB;clear hk4 hR4 hr hb14 hb1 hb2 hb3 hb4 hq hmm hyy hx1 hy1 hc1 hc2 hx2 hy2 hf1 hf2 hx hy hc HM HA HN hS HRg;go_wp2_with fail;go_roundw
    case rel => exact ⟨n,_,zh rfl,by omega,by omega,by omega,by go_num,zh ⟨hR5.out,hB.out⟩⟩
    case measure => simp [intOf]
  ·obtain rfl:m = 0:=by have:=hz.out; omega
   obtain ⟨nb,np,nl,nc,hx,hy,hnum⟩:=hS.out.2.cells;rw [List.drop_zero] at hnum;have hk:=hS.out.1;obtain ⟨⟨x1,hx1⟩,⟨y1,hy1⟩,hf1,hf2⟩:=hk.cells;have hN:=zh (hk.num hnum);have hE:=zh ((hk.store (.bool nb) (.slice np nl nc)).1);clear hS hnum hk;go_wp2_with fail;exact bodyPost_ret (v:=.agg #[.bool nb,.slice np nl nc]) (by simp [results,Tryz.results77,go_sem,hx1,hy1]) rfl ⟨_,rfl,hN.out,hE.out⟩
theorem zqlk {x:Int} {t:List Int} (h:Tidy (x :: t)):Tidy t:=by
 by_cases e:t = []
 ·exact .inl e
 ·refine .inr ?_;have h1:=h.resolve_left (by simp)
  have hl:0 < t.length:=List.length_pos_iff.2 e;have e2:(x :: t).getD ((x :: t).length - 1) 0 = t.getD (t.length - 1) 0:=by
   obtain ⟨n,hn⟩:∃ n,t.length = n + 1:=⟨t.length - 1,by omega⟩
   simp [List.getD,hn]
  rw [e2] at h1; exact h1
theorem zqpk (x:Int) (t:List Int):wv (x :: t) = x + 4294967296 * wv t:=by
 have:=zqkg (a:=x :: t) (by simp)
 simpa using this
theorem zqbl:∀ {a b:List Int},Wd a → Wd b → Tidy a → Tidy b → wv a = wv b → a = b
 | [],b,_,hb,_,tb,h => by
  have:=(tb.wzero hb).1 (by rw [← h]; rfl)
  exact this.symm
 | x :: t,[],ha,_,ta,_,h => (ta.wzero ha).1 (by rw [h]; rfl)
 | x :: t,y :: s,ha,hb,ta,tb,h => by
  rw [zqpk,zqpk] at h;have hx:=ha x (by simp)
  have hy:=hb y (by simp)
  have e:x = y:=by omega
  have e2:wv t = wv s:=by omega
  rw [e,zqbl (fun z hz => ha z (List.mem_cons_of_mem _ hz)) (fun z hz => hb z (List.mem_cons_of_mem _ hz)) (zqlk ta) (zqlk tb) e2]
theorem IsNat.list {w:World} {v:Value} {z:Int} {l:List Int} (h:IsNat w v z) (hd:Wd l) (ht:Tidy l) (hz:wv l = z):WList w v l:=by
 obtain ⟨a,h1,h2,h3⟩:=h;have:=zqbl h1.2.1 hd h2 ht (by rw [h3,hz])
 rw [← this]; exact h1
theorem zqlv {z:Int} {m n:Nat} (h:Halved z m) (k:Halved z n):m = n:=by
 have key:∀ (m n a b:Nat),m < n → (2:Int) ^ m * (2 * a + 1) = 2 ^ n * (2 * b + 1) → False:=fun m n a b hmn e => by
  obtain ⟨d,rfl⟩:∃ d,n = m + d + 1:=⟨n - m - 1,by omega⟩
  rw [show m + d + 1 = m + (d + 1) from rfl,Int.pow_add,Int.mul_assoc] at e;have hp:(2:Int) ^ m ≠ 0:=by have:(0:Int) < 2 ^ m:=Int.pow_pos (by decide); omega
  have e2:=Int.eq_of_mul_eq_mul_left hp e;rw [Int.pow_succ,Int.mul_comm (2 ^ d) 2,Int.mul_assoc] at e2;omega
 have pos:∀ (n a:Nat),(2:Int) ^ n * (2 * a + 1) ≠ 0:=fun n a e => by
  have:(0:Int) < 2 ^ n * (2 * a + 1):=Int.mul_pos (Int.pow_pos (by decide)) (by omega)
  omega
 rcases h with ⟨h1,h2⟩ | ⟨a,h1⟩
 ·rcases k with ⟨k1,k2⟩ | ⟨b,k1⟩
  ·omega
  ·exact absurd (k1.symm.trans h1) (pos n b)
 ·rcases k with ⟨k1,k2⟩ | ⟨b,k1⟩
  ·exact absurd (h1.symm.trans k1) (pos m a)
  ·rcases Nat.lt_trichotomy m n with q | q | q
   ·exact (key m n a b q (h1.symm.trans k1)).elim
   ·exact q
   ·exact (key n m b a q (k1.symm.trans h1)).elim
end Go.Proofs.YtafmghloohhaeaaGreatDoor
namespace Go.Proofs.YtafmghloohhaeaaGreatDoor
set_option maxRecDepth 100000
open Go.ChangeShapes Go.WideShapes Go.ChangeAt Go.RowKit
set_option linter.unusedVariables false
theorem own2:ownKnob Tryz.prog.godebug = none:=by kernel_rfl
theorem laidOut2:laidOutB Tryz.prog = true:=by kernel_rfl
theorem gTab : Tryz.prog.globalNamed "math/bits.deBruijn32tab" = some 1 := by kernel_rfl
theorem tTab:(Tryz.prog.globals[1]?).map (·.type) = some 223:=by kernel_rfl
def tabInts:List Int:=[0,1,28,2,29,14,24,3,30,22,20,15,25,17,4,8,31,27,13,23,21,19,16,7,26,12,18,6,11,5,10,9]
end Go.Proofs.YtafmghloohhaeaaGreatDoor
namespace Go.Proofs.YtafmghloohhaeaaGreatDoor
set_option maxRecDepth 100000
open Go.RowKit
set_option linter.unusedVariables false
theorem zqb4 {W w2:World} (hb:Below W.drew.heap.size W.drew w2):Below W.heap.size W w2:=(Below.refl _ _).drew.trans hb
theorem zqu8 {w w1:World} {N:Nat} {T:TypeId} (h:Kept w N T w1) (u v:Value) :
  ((w1.setCell ⟨N,0,none⟩ u).setCell ⟨N,1,none⟩ v).cell? ⟨N,0,none⟩ = some u ∧ ((w1.setCell ⟨N,0,none⟩ u).setCell ⟨N,1,none⟩ v).cell? ⟨N,1,none⟩ = some v:=by
 obtain ⟨h1,h2,x,y,h3⟩:=h;have h4:=zqkc (u:=u) (v:=v) h3;exact ⟨by simp [World.cell?,h4],by simp [World.cell?,h4]⟩
abbrev SixAt (X M P:Nat) (a b c d e f:Value) (w:World):Prop :=
 (w.cell? ⟨X,0,none⟩ = some a ∧ w.cell? ⟨X,1,none⟩ = some b) ∧ (w.cell? ⟨M,0,none⟩ = some c ∧ w.cell? ⟨M,1,none⟩ = some d) ∧ (w.cell? ⟨P,0,none⟩ = some e ∧ w.cell? ⟨P,1,none⟩ = some f)
theorem SixAt.call {X M P:Nat} {a b c d e f:Value} {w w':World} (h:SixAt X M P a b c d e f w) (hb:Below w.heap.size w w'):SixAt X M P a b c d e f w':=by
 obtain ⟨⟨h1,h2⟩,⟨h3,h4⟩,h5,h6⟩:=h;exact ⟨⟨cell_later hb h1,cell_later hb h2⟩,⟨cell_later hb h3,cell_later hb h4⟩,cell_later hb h5,cell_later hb h6⟩
end Go.Proofs.YtafmghloohhaeaaGreatDoor
namespace Go.Proofs.YtafmghloohhaeaaGreatDoor
set_option maxRecDepth 100000
open Go.RowKit
set_option linter.unusedVariables false
def Tab64 (w:World):Prop:=TabAt 2 Lib.deBruijn64tab w
theorem Tab64.call {w w':World} (h:Tab64 w) (hb:Below w.heap.size w w'):Tab64 w':=fun j hj => cell_later hb (h j hj)
set_option maxHeartbeats 1000000 in
theorem tz64_core (x k idx:Nat) (w:World) (hx0:((x:Int) == 0) = false)
  (key:IntKind.u64.wrap (bits BinOp.and IntKind.u64 (x:Int) (IntKind.u64.wrap (-(x:Int))) * 285870213051353865) / 288230376151711744 = (idx:Int))
  (hi:idx < 64) (hk:k < 64) (hcell:w.cell? ⟨2,idx,none⟩ = some (.int .u8 k)) :
  Calls Tryz.prog 171 #[.int .u64 x] w fun e w' => e = .returned (.int .i64 k) ∧ w = w':=by
 go_enter Tryz.func171,Tryz.ntmps171;go_wp2_with (simp only [key]);go_ret;exact ⟨rfl,rfl⟩
theorem zqy4 (x:Nat) (hx:x < 18446744073709551616) (hx0:x ≠ 0) (w:World) (hT:Tab64 w) :
  Calls Tryz.prog 171 #[.int .u64 x] w fun e w' => e = .returned (.int .i64 (Lib.ctz 64 x)) ∧ w = w':=by
 obtain ⟨hlow,hk⟩:=Lib.lowest_bit 64 x hx0 hx;obtain ⟨hi,htab⟩:=Lib.deBruijn64_at _ hk;have hcell:=hT _ hi;rw [htab] at hcell;exact tz64_core x _ _ w (by simp; omega) (tz64_key x _ hx hx0 hlow) hi hk hcell
def NormPost (c:Nat) (q:Int) (w:World) (e:Ending) (w':World):Prop:=(∃ (d:Nat) (p k:Int),4503599627370496 ≤ d ∧ d < 9007199254740992 ∧ -1074 ≤ p ∧ p ≤ 971 ∧ SameD d (p + k) c q ∧ -52 ≤ k ∧ k ≤ 0 ∧ e = .returned (.tuple #[.float .f64 (rungOf d p),.int .i64 k])) ∧ w = w'
theorem zqxo {c:Nat} (h0:c ≠ 0) (h1:c < 4503599627370496):∃ d p,4503599627370496 ≤ d ∧ d < 9007199254740992 ∧ -1074 ≤ p ∧ p ≤ 971 ∧ SameD d (p + -52) c (-1074) ∧ floatBits .mul .f64 (rungOf c (-1074)) 4841369599423283200 = some (rungOf d p):=by
 obtain ⟨d,p,k1,k2,k3⟩:=zqh0 _ c (-1022) (Nat.le_refl _) (by omega) (by omega)
 have hd:4503599627370496 ≤ d:=by
  obtain ⟨a,b,h | h⟩:=k2
  ·exact h
  ·subst h;obtain ⟨k,⟨g1,g2⟩ | ⟨g1,g2⟩⟩:=k1
   ·obtain rfl:k = 52:=by omega
    omega
   ·omega
 have hc:Canon c (-1074):=⟨by omega,by omega,.inr rfl⟩
 have h52:FV false 4841369599423283200 1 52:=⟨4503599627370496,0,⟨52,.inl ⟨by decide,by decide⟩⟩,⟨by decide,by decide,.inl (by decide)⟩,by decide,by decide⟩
 refine ⟨d,p,hd,k2.1,k2.2.1,by omega,?_,zqix (fvc hc (by omega)) h52 ?_⟩
 ·have:=(k1.add (-52)).symm;exact this
 ·rw [Nat.mul_one];exact (fvc k2 (by omega)).same k1
set_option maxHeartbeats 1000000 in
theorem zqxn (c:Nat) (q:Int) (w:World) (hc:Canon c q) (hq:q ≤ 971) (h0:c ≠ 0) :
  Calls Tryz.prog 181 #[.float .f64 (rungOf c q)] w (NormPost c q w):=by
 have hr:=zqbp hc hq;have hw:=(zqdh hc hq).1;have hn:=(zqdh hc hq).2;have hA:=zh (fun w => zqh3 (rungOf c q) w hw)
 rw [show rungOf c q % 9223372036854775808 = rungOf c q by omega] at hA
 have hlt:=zqi9 hn (y:=4503599627370496) ⟨by decide,by decide⟩
 rw [zqa4 (by omega),zqa4 (x:=4503599627370496) (by omega)] at hlt
 unfold NormPost
 by_cases h:rungOf c q < 4503599627370496
 ·have hq2:q = -1074:=by obtain ⟨a,b,d⟩:=hc; unfold rungOf at h; omega
  subst hq2;have hc52:c < 4503599627370496:=by unfold rungOf at h; omega
  obtain ⟨d,p,k1,k2,k3,k4,k5,k6⟩:=zqxo h0 hc52;have hl:(FloatKind.f64.format.order (rungOf c (-1074)) 4503599627370496 == some .lt) = true:=by rw [hlt]; simp; omega
  have hop:∀ t w,(binOp .mul t (.float .f64 (rungOf c (-1074))) (.float .f64 4841369599423283200)).run Tryz.prog w = .ok (.float .f64 (rungOf d p)) w:=fun t w => run_float_arith w .mul t .f64 _ _ _ k6
  have hE:=zh (show ∃ (d':Nat) (p' k':Int),4503599627370496 ≤ d' ∧ d' < 9007199254740992 ∧ -1074 ≤ p' ∧ p' ≤ 971 ∧ SameD d' (p' + k') c (-1074) ∧ -52 ≤ k' ∧ k' ≤ 0 ∧ Ending.returned (.tuple #[.float .f64 (rungOf d p),.int .i64 (-52)]) = .returned (.tuple #[.float .f64 (rungOf d' p'),.int .i64 k']) from ⟨d,p,-52,k1,k2,k3,k4,k5,by omega,by omega,rfl⟩)
  generalize rungOf c (-1074) = X at *;generalize rungOf d p = R at *;clear hlt h hc hq h0 hr hw hn hc52 k1 k2 k3 k4 k5 k6;go_enter Tryz.func181,Tryz.ntmps181;go_wp2_with fail;refine (hA.out _).mono ?_; rintro e w1 ⟨rfl,rfl⟩;go_wp2_with (simp only);go_ret2;exact ⟨hE.out,rfl⟩
 ·have hd:4503599627370496 ≤ c:=by obtain ⟨a,b,d⟩:=hc; unfold rungOf at h; omega
  have hl:(FloatKind.f64.format.order (rungOf c q) 4503599627370496 == some .lt) = false:=by rw [hlt]; simp; omega
  have hE:=zh (show ∃ (d':Nat) (p' k':Int),4503599627370496 ≤ d' ∧ d' < 9007199254740992 ∧ -1074 ≤ p' ∧ p' ≤ 971 ∧ SameD d' (p' + k') c q ∧ -52 ≤ k' ∧ k' ≤ 0 ∧ Ending.returned (.tuple #[.float .f64 (rungOf c q),.int .i64 0]) = .returned (.tuple #[.float .f64 (rungOf d' p'),.int .i64 k']) from ⟨c,q,0,hd,hc.1,hc.2.1,hq,by rw [Int.add_zero]; exact SameD.refl _ _,by omega,by omega,rfl⟩)
  generalize rungOf c q = X at *;clear hlt h hc hq h0 hr hw hn hd;go_enter Tryz.func181,Tryz.ntmps181;go_wp2_with fail;refine (hA.out _).mono ?_; rintro e w1 ⟨rfl,rfl⟩;go_wp2_with fail;go_ret2;exact ⟨hE.out,rfl⟩
theorem zqsx {c:Nat} {q:Int} (hc:Canon c q) (hq:q ≤ 971) (h0:c ≠ 0):isNaNB (rungOf c q) = false ∧ isInfB (rungOf c q) = false ∧ isZeroB (rungOf c q) = false ∧ kindI (rungOf c q) = 1:=by
 have hr:=zqbp hc hq;have hp:0 < rungOf c q:=by unfold rungOf; omega
 have h1:isNaNB (rungOf c q) = false:=by unfold isNaNB; simp; omega
 have h2:isInfB (rungOf c q) = false:=by unfold isInfB; simp; omega
 have h3:isZeroB (rungOf c q) = false:=by unfold isZeroB; simp; omega
 exact ⟨h1,h2,h3,by unfold kindI; rw [h1,h2,h3]; rfl⟩
theorem zquu {a b:Nat} {i j:Int} (h:a = b) (h2:i = j):Ending.returned (.tuple #[.float .f64 a,.int .i64 i]) = .returned (.tuple #[.float .f64 b,.int .i64 j]):=by rw [h,h2]
def FrexpPost (c:Nat) (q:Int) (w:World) (e:Ending) (w':World):Prop:=(∃ (d:Nat) (k:Int),4503599627370496 ≤ d ∧ d < 9007199254740992 ∧ SameD d (k - 53) c q ∧ -1200 ≤ k ∧ k ≤ 1100 ∧ e = .returned (.tuple #[.float .f64 (rungOf d (-53)),.int .i64 k])) ∧ w = w'
theorem zqp9 {d:Nat} {p:Int} (h1:4503599627370496 ≤ d) (h2:d < 9007199254740992) (h3:-1074 ≤ p) (h4:p ≤ 971) :
  (rungOf d p:Int) / 4503599627370496 = p + 1075 ∧ (rungOf d p:Int) % 4503599627370496 = d - 4503599627370496 ∧ (rungOf d p:Int) < 9223372036854775808:=by
 unfold rungOf; omega
set_option maxHeartbeats 2000000 in
theorem zqqa (c:Nat) (q:Int) (w:World) (hc:Canon c q) (hq:q ≤ 971) (h0:c ≠ 0) :
  Calls Tryz.prog 178 #[.float .f64 (rungOf c q)] w (FrexpPost c q w):=by
 obtain ⟨t1,t2,t3,t4⟩:=zqsx hc hq h0;have hw:=(zqdh hc hq).1;have hZ:=zqc0 _ hw;have hI:=zh (fun w => zqk0 _ w hw)
 have hN:=zh (fun w => zqdt _ w hw)
 rw [t3] at hZ;rw [t2] at hI;rw [t1] at hN;have hM:=zh (fun w => zqxn c q w hc hq h0)
 have hF:=fun x w => fbits x w
 have hG:=fun n w => ffrom n w
 unfold FrexpPost;generalize rungOf c q = X at *;clear t1 t2 t3 t4 hw;go_enter Tryz.func178,Tryz.ntmps178;go_wp2_with fail;refine (hI.out _).mono ?_; rintro e w1 ⟨rfl,rfl⟩;go_wp2_with fail;refine (hN.out _).mono ?_; rintro e w1 ⟨rfl,rfl⟩;go_wp2_with fail;refine (hM.out _).mono ?_; rintro e w1 ⟨⟨d,p,k,k1,k2,k3,k4,k5,k6,k7,rfl⟩,rfl⟩;obtain ⟨b1,b2,b3⟩:=zqp9 k1 k2 k3 k4;have hS:=zh (show SameD d (k + (p + 53) - 53) c q by rw [show k + (p + 53) - 53 = p + k by omega]; exact k5)
 have hv:=zh (show d - 4503599627370496 + 4602678819172646912 = rungOf d (-53) by unfold rungOf; omega)
 have hb0:(0:Int) ≤ (rungOf d p:Int):=by omega
 have hA:=low11 (p + 1075) (by omega) (by omega)
 rw [show (p + 1075) % 2048 = p + 1075 by omega] at hA
 have hC:=clrExp (rungOf d p:Int) hb0 b3;rw [b2] at hC;have hO:=orExp ((d:Int) - 4503599627370496) 1022 (by omega) (by omega) (by omega)
 rw [show ((1022:Nat):Int) * 4503599627370496 = 4602678819172646912 by decide] at hO
 generalize rungOf d p = R at *;clear hI hN hM hZ k5 b2;go_wp2_with (first | simp only | simp only [hC] | simp only [hO])
 go_ret2;exact ⟨⟨d,k + (p + 53),k1,k2,hS.out,by omega,by omega,zquu hv.out (by omega)⟩,rfl⟩
theorem zqs8 (c:Nat) (q:Int) (w:World) (hc:Canon c q) (hq:q ≤ 971) (h0:c ≠ 0) :
  Calls Tryz.prog 169 #[.float .f64 (rungOf c q)] w (FrexpPost c q w):=by
 have hM:=zh (fun w => zqqa c q w hc hq h0)
 unfold FrexpPost at *;generalize rungOf c q = X at *;go_enter Tryz.func169,Tryz.ntmps169;go_wp2_with fail;refine (hM.out _).mono ?_; rintro e w1 ⟨⟨d,k,k1,k2,k3,k4,k5,rfl⟩,rfl⟩;have k3:=zh k3;generalize hv:rungOf d (-53) = R at *;have hv:=zh hv;go_wp2_with fail;go_ret2;exact ⟨⟨d,k,k1,k2,k3.out,k4,k5,zquu hv.out.symm rfl⟩,rfl⟩
theorem zqqb {c d:Nat} {q k:Int} (h1:4503599627370496 ≤ d) (h2:d < 9007199254740992) (hs:SameD d (k - 53) c q):Lib.ctz 64 d < 64 ∧ IsSplit c q ((d:Int) / 2 ^ Lib.ctz 64 d) (k - 53 + Lib.ctz 64 d):=by
 obtain ⟨m,hm,hlt⟩:=Lib.ctzFrom_spec 64 d (by omega) (by omega)
 have hc:Lib.ctz 64 d = Lib.ctzFrom 64 d:=by unfold Lib.ctz; rw [if_neg (by omega)]
 rw [hc];generalize Lib.ctzFrom 64 d = t at *;have hp:=zqa2 t;have hq:d / 2 ^ t = 2 * m + 1:=by rw [hm]; exact Nat.mul_div_cancel_left _ hp
 have hi:(d:Int) / 2 ^ t = ((2 * m + 1:Nat):Int):=by
  have e:((2:Int) ^ t) = ((2 ^ t:Nat):Int):=by simp
  rw [e,← Int.natCast_ediv,hq]
 have hle:2 * m + 1 ≤ d:=by rw [hm]; exact Nat.le_mul_of_pos_left _ hp
 refine ⟨hlt,?_⟩;rw [hi];refine ⟨by omega,by omega,SameD.trans ⟨t,.inl ⟨by omega,?_⟩⟩ hs,by omega⟩
 rw [Int.toNat_natCast,Nat.mul_comm]; exact hm
def PSplitPost (x c:Nat) (q:Int) (w:World) (e:Ending) (w':World):Prop:=(∃ m k:Int,IsSplit c q m k ∧ e = .returned (.tuple #[.bool (negB x),.int .u64 m,.int .i64 k])) ∧ Drawn w w'
set_option maxHeartbeats 2000000 in
theorem zqq3 (x c:Nat) (q:Int) (w:World) (hx:W64 x) (hk:kindI x = 1) (hc:Canon c q) (hq:q ≤ 971) (h0:c ≠ 0) (hr:rungOf c q = x % 9223372036854775808) (hT:Tab64 w) :
  Calls Tryz.prog 155 #[.float .f64 x] w (PSplitPost x c q w):=by
 have hA:=zh (fun w => zqkw x w hx)
 rw [hk] at hA;obtain ⟨g1,g2,g3,g4,g5⟩:=zqdg hx hk;have hL:=zqov hx g1 g3;have hB:=zh (fun w => zqh3 x w hx)
 rw [← hr] at hB;have hF:=zh (fun w => zqs8 c q w hc hq h0)
 have HT:=zh hT;have h53:FV false 4845873199050653696 1 53:=⟨4503599627370496,1,⟨52,.inl ⟨by decide,by decide⟩⟩,⟨by decide,by decide,.inl (by decide)⟩,by decide,by decide⟩
 have hop:∀ d:Nat,4503599627370496 ≤ d → d < 9007199254740992 → ∀ t w,(binOp .mul t (.float .f64 (rungOf d (-53))) (.float .f64 4845873199050653696)).run Tryz.prog w = .ok (.float .f64 (rungOf d 0)) w:=fun d k1 k2 t w => run_float_arith w .mul t .f64 _ _ _ (zqix (fvc ⟨k2,by omega,.inl k1⟩ (by omega)) h53 (by rw [Nat.mul_one]; exact fvc ⟨k2,by omega,.inl k1⟩ (by omega)))
 have hcv:∀ d:Nat,4503599627370496 ≤ d → d < 9007199254740992 → ∀ w,(convert 46 28 (.float .f64 (rungOf d 0))).run Tryz.prog w = .ok (.int .u64 (d:Int)) w:=fun d k1 k2 w => run_convert_float_int w 46 28 .f64 .u64 _ _ (by rw [Tryz.underlying46]; rfl) Tryz.underlying28 (by
  have h:=zqlq (c:=d) (q:=0) ⟨k2,by omega,.inl k1⟩ (by omega)
  have e:wholeN d 0 = d:=by unfold wholeN; simp
  rw [e] at h; exact h)
 have Hop:=zh hop;have Hcv:=zh hcv;clear hop hcv hT;unfold PSplitPost;generalize hb:negB x = b at *;generalize rungOf c q = X at *;clear hk hr g1 g2 g3 g4 g5 hc hq h0 hb h53;go_enter Tryz.func155,Tryz.ntmps155;go_wp2_with fail;refine (hA.out _).mono ?_; rintro e w1 ⟨rfl,rfl⟩;go_wp2_with fail;refine (hB.out _).mono ?_; rintro e w1 ⟨rfl,rfl⟩;go_wp2_with fail;refine (hF.out _).mono ?_; rintro e w1 ⟨⟨d,k,k1,k2,k3,k4,k5,rfl⟩,rfl⟩;have hop:=Hop.out d k1 k2;have hcv:=Hcv.out d k1 k2;have hTz:=zh (zqy4 d (by omega) (by omega) w HT.out)
 obtain ⟨ht,hs⟩:=zqqb k1 k2 k3;have hs:=zh hs;generalize rungOf d (-53) = R1 at *;generalize rungOf d 0 = R2 at *;generalize Lib.ctz 64 d = t at *;clear hA hB hF k3;go_wp2_with (first | simp only | simp only [hcv])
 refine (hTz.out).mono ?_; rintro e w1 ⟨rfl,rfl⟩;clear hTz hop hcv;go_wp2_with fail;go_quiet (fail);go_wp2_with fail;go_ret3;exact ⟨⟨_,_,hs.out,rfl⟩,(Drawn.refl _).next _⟩
theorem zqm0 (x:Nat) (w:World) (hx:W64 x) (hk:kindI x ≠ 1) :
  Calls Tryz.prog 155 #[.float .f64 x] w fun e w' => e = .returned (.tuple #[.bool (belowB x),.int .u64 0,.int .i64 0]) ∧ w = w':=by
 have hA:=zh (fun w => zqkw x w hx)
 have hS:=zh (fun w => zqe6 x w hx)
 have k3:=zqdf x;have k1:(kindI x != 1) = true:=by simpa using hk
 unfold belowB;generalize isNaNB x = n at *;generalize negB x = b at *;generalize kindI x = K at *;clear hk;cases n
 ·go_enter Tryz.func155,Tryz.ntmps155;go_wp2_with fail;refine (hA.out _).mono ?_; rintro e w1 ⟨rfl,rfl⟩;go_wp2_with fail;refine (hS.out _).mono ?_; rintro e w1 ⟨rfl,rfl⟩;go_wp2_with fail;go_ret3;exact ⟨rfl,rfl⟩
 ·go_enter Tryz.func155,Tryz.ntmps155;go_wp2_with fail;refine (hA.out _).mono ?_; rintro e w1 ⟨rfl,rfl⟩;go_wp2_with fail;go_ret3;exact ⟨rfl,rfl⟩
set_option maxRecDepth 100000
open Go.RowKit
set_option linter.unusedVariables false
end Go.Proofs.YtafmghloohhaeaaGreatDoor
namespace Go.Proofs.YtafmghloohhaeaaGreatDoor
set_option maxRecDepth 100000
open Go.RowKit
set_option linter.unusedVariables false
def rndN (z n:Nat):Nat:=if 2 ^ n < 2 * (z % 2 ^ n) ∨ (2 ^ n = 2 * (z % 2 ^ n) ∧ z / 2 ^ n % 2 = 1) then z / 2 ^ n + 1 else z / 2 ^ n
set_option maxRecDepth 100000
open Go.RowKit
set_option linter.unusedVariables false
def rU (L:Nat) (e:Int):Int:=max ((L:Int) + e - 53) (-1074)
def rN (z L:Nat) (e:Int):Nat:=if rU L e ≤ e then z * 2 ^ (e - rU L e).toNat else rndN z (rU L e - e).toNat
def nearW (z:Nat) (e:Int):Nat:=if z = 0 ∨ e + bitsZ z < -1074 then 0 else if 1024 < e + bitsZ z then 9218868437227405312 else Ieee.double.nearest false (rN z (bitsZ z) e) (rU (bitsZ z) e)
theorem zqnu {z:Nat} (h0:z ≠ 0):z < 2 ^ bitsZ z:=by
 have:=zqoi (z:=(z:Int)) (by omega)
 have e:((2 ^ bitsZ z:Nat):Int) = (2:Int) ^ bitsZ z:=by simp
 omega
end Go.Proofs.YtafmghloohhaeaaGreatDoor
namespace Go.Proofs.YtafmghloohhaeaaGreatDoor
set_option maxRecDepth 100000
open Go.RowKit
set_option linter.unusedVariables false
set_option maxRecDepth 100000
open Go.RowKit
set_option linter.unusedVariables false
theorem zqq1 {m n:Nat} (h:(2:Int) ^ m < 2 ^ n):m < n:=by
 by_cases g:m < n
 ·exact g
 ·have:=zqlb (m:=n) (n:=m) (by omega); omega
theorem zqrv {z:Nat} {N:Nat} (h0:z ≠ 0):(z:Int) < 2 ^ N ↔ bitsZ z ≤ N:=by
 have h1:=zqoi (z:=(z:Int)) (by omega)
 have h2:=zqy9 (z:=(z:Int)) (by omega)
 have h3:=zqr9 (z:=(z:Int)) (by omega)
 constructor
 ·intro h;have:=zqq1 (Int.lt_of_le_of_lt h2 h);omega
 ·intro h;have:=zqlb h;omega
set_option maxRecDepth 100000
open Go.RowKit
set_option linter.unusedVariables false
theorem zqoz {w w1:World} {M:Nat} {v:Value} {z:Int} (h:Kept w M 87 w1) (u s:Value) (hn:IsNum w1 v z):IsNum ((w1.setCell ⟨M,0,none⟩ u).setCell ⟨M,1,none⟩ s) v z:=by
 obtain ⟨h1,h2,x,y,h3⟩:=h;obtain ⟨cur,h4⟩:=zqbr (p:=⟨M,0,none⟩) (u:=u) h3;exact (hn.set u h3 (by decide)).set s h4 (by decide)
theorem zqxl {z L:Nat} {e:Int} (hL:z < 2 ^ L) (h:e + L < -1074):rN z L e = 0:=by
 have h1:rU L e = -1074:=by unfold rU; omega
 unfold rN;rw [h1,if_neg (by omega)]
 obtain ⟨n,hn⟩:∃ n,(-1074 - e).toNat = L + 1 + n:=⟨(-1074 - e).toNat - (L + 1),by omega⟩
 rw [hn];have h2:2 ^ (L + 1) ≤ 2 ^ (L + 1 + n):=Nat.pow_le_pow_right (by decide) (by omega)
 have h3:2 ^ (L + 1) = 2 ^ L * 2:=Nat.pow_succ ..;unfold rndN;rw [Nat.div_eq_of_lt (by omega),Nat.mod_eq_of_lt (by omega),if_neg (by omega)]
set_option maxRecDepth 100000
open Go.RowKit
set_option linter.unusedVariables false
end Go.Proofs.YtafmghloohhaeaaGreatDoor
namespace Go.Proofs.YtafmghloohhaeaaGreatDoor
set_option maxRecDepth 100000
open Go.RowKit
set_option linter.unusedVariables false
theorem zqt2 {z:Nat} (e:Int) (h0:z ≠ 0):nearW z e = if 971 < (bitsZ z:Int) + e - 53 then 9218868437227405312 else Ieee.double.nearest false (rN z (bitsZ z) e) (rU (bitsZ z) e):=by
 have hlt:=zqnu h0;unfold nearW
 by_cases h1:e + bitsZ z < -1074
 ·rw [if_pos (.inr h1),if_neg (by omega),zqxl hlt h1,zqmx]; rfl
 ·rw [if_neg (by omega)]
  by_cases h2:1024 < e + bitsZ z
  ·rw [if_pos h2,if_pos (by omega)]
  ·rw [if_neg h2,if_neg (by omega)]
theorem zqi3 {N:Nat} (h0:N ≠ 0) (k:Nat):N < 2 ^ k ↔ bitsZ (N:Int) ≤ k:=by
 have:=zqrv (z:=N) (N:=k) h0;have e:((2 ^ k:Nat):Int) = (2:Int) ^ k:=by simp
 constructor
 ·intro h; exact this.1 (by omega)
 ·intro h; have:=this.2 h; omega
set_option maxRecDepth 100000
open Go.RowKit
set_option linter.unusedVariables false
set_option maxRecDepth 100000
open Go.RowKit
set_option linter.unusedVariables false
theorem zqf6 {M N:Nat} (h0:M ≠ 0) (h:M < 2 ^ N):bitsZ (M:Int) ≤ N:=(zqi3 h0 N).1 h
end Go.Proofs.YtafmghloohhaeaaGreatDoor
namespace Go.Proofs.YtafmghloohhaeaaGreatDoor
set_option maxRecDepth 100000
open Go.RowKit
set_option linter.unusedVariables false
set_option maxRecDepth 100000
open Go.RowKit
set_option linter.unusedVariables false
set_option maxRecDepth 100000
open Go.RowKit
set_option linter.unusedVariables false
set_option maxRecDepth 100000
open Go.RowKit
set_option linter.unusedVariables false
set_option maxRecDepth 100000
open Go.RowKit
set_option linter.unusedVariables false
set_option maxRecDepth 100000
open Go.RowKit
set_option linter.unusedVariables false
theorem WRow.lt {w:World} {B g cap:Nat} {a:List Int} (h:WRow w B g cap a):g < w.heap.size:=h.facts.2.1
end Go.Proofs.YtafmghloohhaeaaGreatDoor
namespace Go.Proofs.YtafmghloohhaeaaGreatDoor
set_option maxRecDepth 100000
open Go.RowKit
set_option linter.unusedVariables false
theorem zqtl {w:World} {p:Option Addr} {l c:Nat} {z:Int} (h:IsNat w (.slice p l c) z):l = 0 ↔ z = 0:=by
 obtain ⟨a,h1,h2,h3⟩:=h;obtain ⟨p',c',e⟩:=h1.shape;simp only [Value.slice.injEq] at e;have el:l = a.length:=e.2.1
 constructor
 ·intro h0;have:a = []:=List.length_eq_zero_iff.1 (by omega)
  subst this; rw [← h3]; rfl
 ·intro h0;apply Classical.byContradiction;intro hh;have hne:a ≠ []:=fun e => hh (by rw [el,e]; rfl)
  have h4:=h2.wsize h1.2.1 hne;have:=q_pos (a.length - 1);omega
set_option maxRecDepth 100000
open Go.RowKit
set_option linter.unusedVariables false
set_option maxHeartbeats 400000 in
theorem zqy7 (a:Int) (h1:-9223372036854775808 ≤ a) (h2:a ≤ 9223372036854775807) (w:World) :
  Calls Tryz.prog 84 #[.int .i64 a] w fun e w' => e = .returned (.int .u64 (a.natAbs:Int)) ∧ w = w':=by
 by_cases h:a < 0
 ·go_enter Tryz.func84,Tryz.ntmps84;go_wp2;go_ret;exact ⟨zqar (by first | omega | (simp [IntKind.wrap,IntKind.bits,IntKind.signed]; omega)),rfl⟩
 ·have h':0 ≤ a:=by omega
  go_enter Tryz.func84,Tryz.ntmps84;go_wp2;go_ret;exact ⟨zqar (by omega),rfl⟩
theorem zqvs (n:Nat):(4294967296:Int) ^ n = 2 ^ (32 * n):=by
 rw [show (4294967296:Int) = 2 ^ 32 by decide,← Int.pow_mul]
theorem zqou {p N:Nat} (hb:bitsZ (p:Int) ≤ N):p < 2 ^ N:=by
 by_cases h0:p = 0
 ·rw [h0]; exact zqa2 _
 ·exact (zqi3 h0 N).2 hb
end Go.Proofs.YtafmghloohhaeaaGreatDoor
namespace Go.Proofs.YtafmghloohhaeaaGreatDoor
set_option maxRecDepth 100000
open Go.RowKit
set_option linter.unusedVariables false
theorem SixAt.drew {X M P:Nat} {a b c d e f:Value} {w:World} (h:SixAt X M P a b c d e f w):SixAt X M P a b c d e f w.drew:=h.call (Below.refl _ _).drew
theorem SixAt.alloc {X M P:Nat} {a b c d e f:Value} {w:World} {o:Obj} (h:SixAt X M P a b c d e f w):SixAt X M P a b c d e f (w.alloc o):=h.call (zqab w o)
theorem SixAt.set {X M P N:Nat} {a b c d e f u v:Value} {w:World} (h:SixAt X M P a b c d e f w) (h1:X ≠ N) (h2:M ≠ N) (h3:P ≠ N):SixAt X M P a b c d e f ((w.setCell ⟨N,0,none⟩ u).setCell ⟨N,1,none⟩ v):=by
 obtain ⟨⟨c1,c2⟩,⟨c3,c4⟩,c5,c6⟩:=h;refine ⟨⟨?_,?_⟩,⟨?_,?_⟩,?_,?_⟩
 all_goals rw [World.cell?_setCell_far _ _ _ _ (by simp; omega),World.cell?_setCell_far _ _ _ _ (by simp; omega)]; assumption
set_option maxRecDepth 100000
open Go.RowKit
set_option linter.unusedVariables false
end Go.Proofs.YtafmghloohhaeaaGreatDoor
namespace Go.Proofs.YtafmghloohhaeaaGreatDoor
set_option maxRecDepth 100000
open Go.RowKit
set_option linter.unusedVariables false
set_option maxRecDepth 100000
open Go.RowKit
set_option linter.unusedVariables false
abbrev OneAt (X:Nat) (a b:Value) (w:World):Prop:=w.cell? ⟨X,0,none⟩ = some a ∧ w.cell? ⟨X,1,none⟩ = some b
theorem OneAt.call {X:Nat} {a b:Value} {w w':World} (h:OneAt X a b w) (hb:Below w.heap.size w w'):OneAt X a b w':=⟨cell_later hb h.1,cell_later hb h.2⟩
theorem OneAt.alloc {X:Nat} {a b:Value} {w:World} {o:Obj} (h:OneAt X a b w):OneAt X a b (w.alloc o):=h.call (zqab w o)
theorem OneAt.drew {X:Nat} {a b:Value} {w:World} (h:OneAt X a b w):OneAt X a b w.drew:=h.call (Below.refl _ _).drew
theorem OneAt.set {X M:Nat} {a b u v:Value} {w:World} (h:OneAt X a b w) (hne:X ≠ M):OneAt X a b ((w.setCell ⟨M,0,none⟩ u).setCell ⟨M,1,none⟩ v):=by
 obtain ⟨h1,h2⟩:=h;exact ⟨by rw [World.cell?_setCell_far _ _ _ _ (by simp; omega),World.cell?_setCell_far _ _ _ _ (by simp; omega)]; exact h1,by rw [World.cell?_setCell_far _ _ _ _ (by simp; omega),World.cell?_setCell_far _ _ _ _ (by simp; omega)]; exact h2⟩
theorem OneAt.lt {X:Nat} {a b:Value} {w:World} (h:OneAt X a b w):X < w.heap.size:=World.block_lt_of_cell? w ⟨X,0,none⟩ h.1
def Fin3 (w:World) (O Y M:Nat) (a b c d g h:Value) (x y z:Int) (wr:World):Prop :=
 SixAt O Y M a b c d g h wr ∧ Below w.heap.size w wr ∧ IsNum wr (.agg #[a,b]) x ∧ IsNum wr (.agg #[c,d]) y ∧ IsNum wr (.agg #[g,h]) z
theorem Fin3.call {w w1 w2:World} {O Y M:Nat} {a b c d g h:Value} {x y z:Int} (k:Fin3 w O Y M a b c d g h x y z w1) (hb:Below w1.heap.size w1 w2):Fin3 w O Y M a b c d g h x y z w2:=by
 obtain ⟨h1,h2,h3,h4,h5⟩:=k;exact ⟨SixAt.call h1 hb,zqaa h2 hb,h3.below hb,h4.below hb,h5.below hb⟩
def Fin2 (w:World) (O Y:Nat) (a b c d:Value) (x y:Int) (wr:World):Prop :=
 (OneAt O a b wr ∧ OneAt Y c d wr) ∧ Below w.heap.size w wr ∧ IsNum wr (.agg #[a,b]) x ∧ IsNum wr (.agg #[c,d]) y
theorem Fin2.call {w w1 w2:World} {O Y:Nat} {a b c d:Value} {x y:Int} (k:Fin2 w O Y a b c d x y w1) (hb:Below w1.heap.size w1 w2):Fin2 w O Y a b c d x y w2:=by
 obtain ⟨⟨h1,h2⟩,h3,h4,h5⟩:=k;exact ⟨⟨OneAt.call h1 hb,OneAt.call h2 hb⟩,zqaa h3 hb,h4.below hb,h5.below hb⟩
theorem zqoq {w W0 W:World} {O Y M:Nat} {a b c d u t:Value} {x y z:Int} (h:Fin2 w O Y a b c d x y W) (k:Kept W0 M 87 W) (h0:Below w.heap.size w W0) (hO:O < W0.heap.size) (hY:Y < W0.heap.size) (hz:IsNum W (.agg #[u,t]) z) :
  Fin3 w O Y M a b c d u t x y z ((W.setCell ⟨M,0,none⟩ u).setCell ⟨M,1,none⟩ t):=by
 obtain ⟨⟨h1,h2⟩,h3,h4,h5⟩:=h;have hM:=k.2.1;have k2:=k.down h0;refine ⟨⟨h1.set (by omega),h2.set (by omega),zqu8 k u t⟩,(k2.store u t).1,zqoz k u t h4,zqoz k u t h5,k.num hz⟩
set_option maxRecDepth 100000
open Go.RowKit
set_option linter.unusedVariables false
end Go.Proofs.YtafmghloohhaeaaGreatDoor
namespace Go.Proofs.YtafmghloohhaeaaGreatDoor
set_option maxRecDepth 100000
open Go.RowKit
set_option linter.unusedVariables false
theorem zqie {c d:Nat} {q p b:Int} (h:SameD c q d p) (hq:b ≤ q) (hp:b ≤ p):c * 2 ^ (q - b).toNat = d * 2 ^ (p - b).toNat:=by
 obtain ⟨k,⟨h1,h2⟩ | ⟨h1,h2⟩⟩:=h
 ·rw [h2,show (q - b).toNat = k + (p - b).toNat by omega,Nat.pow_add,Nat.mul_assoc]
 ·rw [h2,show (p - b).toNat = k + (q - b).toNat by omega,Nat.pow_add,Nat.mul_assoc]
theorem FV.mono {R S c d:Nat} {q:Int} (h:FV false R c q) (k:FV false S d q) (hcd:c ≤ d):R ≤ S:=by
 obtain ⟨c1,q1,s1,k1,l1,rfl⟩:=h;obtain ⟨d1,p1,s2,k2,l2,rfl⟩:=k;show rungOf c1 q1 ≤ rungOf d1 p1
 apply Nat.le_of_not_lt;intro hlt;obtain ⟨b,hb⟩:∃ b:Int,b = min (min p1 q1) q:=⟨_,rfl⟩
 obtain ⟨m,hm⟩:∃ m:Int,m = min p1 q1:=⟨_,rfl⟩
 have h1:=(zqga k2 k1 m hm).2 hlt;have h2:=zqie s1 (b:=b) (by omega) (by omega)
 have h3:=zqie s2 (b:=b) (by omega) (by omega)
 obtain ⟨t,ht⟩:=Int.eq_ofNat_of_zero_le (a:=m - b) (by omega)
 have h4:d1 * 2 ^ (p1 - b).toNat < c1 * 2 ^ (q1 - b).toNat:=by
  rw [show (p1 - b).toNat = (p1 - m).toNat + t by omega,show (q1 - b).toNat = (q1 - m).toNat + t by omega,Nat.pow_add,Nat.pow_add,← Nat.mul_assoc,← Nat.mul_assoc]
  exact Nat.mul_lt_mul_of_pos_right h1 (zqa2 t)
 rw [← h2,← h3] at h4;have:=Nat.mul_le_mul_right (2 ^ (q - b).toNat) hcd;omega
set_option maxRecDepth 100000
open Go.RowKit
set_option linter.unusedVariables false
set_option maxRecDepth 100000
open Go.RowKit
set_option linter.unusedVariables false
end Go.Proofs.YtafmghloohhaeaaGreatDoor
