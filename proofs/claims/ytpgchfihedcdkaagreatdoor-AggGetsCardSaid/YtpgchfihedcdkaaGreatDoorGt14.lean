/- Contracts that the law leans on: Power Numw Numx Awake2 Laid2 Meet Flok Flom Flon. -/
import Derived.Deep.RegionWith
import Derived.Deep.RegionHeld3
import Derived.ProofKit
import Derived.LaidMore
import Derived.OpenShut
import Derived.Stop.Joined
import Derived.Lib.LaidTab
import Derived.Test.YtpgchfihedcdkaaGreatDoorRows
import Derived.Test.YtpgchfihedcdkaaGreatDoorGt02
import Derived.Test.YtpgchfihedcdkaaGreatDoorGt04
import Derived.Test.YtpgchfihedcdkaaGreatDoorGt08
import Derived.Test.YtpgchfihedcdkaaGreatDoorGt11
import Derived.Test.YtpgchfihedcdkaaGreatDoorGt13
namespace Go.Proofs.YtpgchfihedcdkaaGreatDoor
set_option maxRecDepth 100000
open Go.RowKit
theorem zqm5 {s:Nat} {x:Int} (h:Sized s x) (k:Nat):Sized (s * k + 1) (x ^ k):=by
 have h1:x.natAbs ≤ 1000 ^ s:=by
  obtain ⟨h1,h2⟩:=h;have e:((1000 ^ s:Nat):Int) = (1000:Int) ^ s:=by rw [Int.natCast_pow]; rfl
  omega
 have h2:(x ^ k).natAbs = x.natAbs ^ k:=Int.natAbs_pow x k;have h3:x.natAbs ^ k ≤ (1000 ^ s) ^ k:=Nat.pow_le_pow_left h1 k;rw [← Nat.pow_mul] at h3;have h4:0 < 1000 ^ (s * k):=Nat.pow_pos (by decide)
 have h5:1000 ^ (s * k + 1) = 1000 ^ (s * k) * 1000:=Nat.pow_succ ..;have e:((1000 ^ (s * k + 1):Nat):Int) = (1000:Int) ^ (s * k + 1):=by rw [Int.natCast_pow]; rfl
 unfold Sized;omega
def Held2 (w:World) (R N M:Nat) (a b c d:Value) (w':World):Prop :=
 w'.cell? ⟨N,0,none⟩ = some a ∧ w'.cell? ⟨N,1,none⟩ = some b ∧ w'.cell? ⟨M,0,none⟩ = some c ∧ w'.cell? ⟨M,1,none⟩ = some d ∧ Kept w R 112 w' ∧ R ≠ N ∧ R ≠ M
theorem Held2.call {w w1 w2:World} {R N M:Nat} {a b c d:Value} (h:Held2 w R N M a b c d w1) (hb:Below w1.heap.size w1 w2):Held2 w R N M a b c d w2 :=
 ⟨cell_later hb h.1,cell_later hb h.2.1,cell_later hb h.2.2.1,cell_later hb h.2.2.2.1,h.2.2.2.2.1.call hb,h.2.2.2.2.2⟩
theorem Held2.drew {w w1:World} {R N M:Nat} {a b c d:Value} (h:Held2 w R N M a b c d w1):Held2 w R N M a b c d w1.drew:=h.call (Below.refl _ _).drew
theorem Held2.store {w w1:World} {R N M:Nat} {a b c d:Value} (h:Held2 w R N M a b c d w1) (u v:Value):Held2 w R N M a b c d ((w1.setCell ⟨R,0,none⟩ u).setCell ⟨R,1,none⟩ v):=by
 obtain ⟨h1,h2,h3,h4,h5,h6,h7⟩:=h;refine ⟨?_,?_,?_,?_,h5.store u v,h6,h7⟩
 ·rw [World.cell?_setCell_far _ _ _ _ h6,World.cell?_setCell_far _ _ _ _ h6]; exact h1
 ·rw [World.cell?_setCell_far _ _ _ _ h6,World.cell?_setCell_far _ _ _ _ h6]; exact h2
 ·rw [World.cell?_setCell_far _ _ _ _ h7,World.cell?_setCell_far _ _ _ _ h7]; exact h3
 ·rw [World.cell?_setCell_far _ _ _ _ h7,World.cell?_setCell_far _ _ _ _ h7]; exact h4
set_option maxHeartbeats 1000000 in
theorem zqko (v:Value) (x i:Int) (w:World) (hv:IsNum w v x) (hi:i ≤ 0) :
  Calls Tryz.prog 243 #[v,.int .i64 i] w (MadeNum w 1):=by
 obtain ⟨b1,p1,l1,c1,rfl⟩:=hv.shape;have hk0:=zh (Kept.start (w.alloc (.cells #[.bool b1,.slice p1 l1 c1] 112)) (.bool false) (.slice none 0 0) 112);clear hv;go_enter Tryz.func243,Tryz.ntmps243;go_wp2_with fail;refine (zqbo 1 _ (by decide) (by decide)).mono ?_; rintro e w4 ⟨q,rfl,hq,hb4⟩
 have hk:=hk0.out.call hb4;simp only [World.size_alloc] at hk;clear hb4 hk0;obtain ⟨rn,rp,rl,rc,rfl⟩:=hq.shape;obtain ⟨⟨x1,hx1⟩,⟨y1,hy1⟩,hf1,hf2⟩:=hk.cells;have hN:=hk.num hq;have hE:=(hk.store (.bool rn) (.slice rp rl rc)).1;clear hk hq;go_wp2_with fail;refine bodyPost_ret (v:=.agg #[.bool rn,.slice rp rl rc]) (by simp [results,Tryz.results243,go_sem,hx1,hy1]) rfl ⟨_,rfl,hN,?_⟩
 exact (zqab w _).trans (hE.mono (by simp))
theorem Kept.down {w w1 w2:World} {R:Nat} {T:TypeId} (h:Kept w1 R T w2) (hb:Below w.heap.size w w1):Kept w R T w2:=by
 obtain ⟨h1,h2,h3⟩:=h;exact ⟨hb.trans (h1.mono hb.size),by have:=hb.size; omega,h3⟩
theorem zqkn {w w1:World} {a b c d u v:Value} (hb:Below ((w.alloc (.cells #[a,b] 112)).alloc (.cells #[u,v] 112)).heap.size ((w.alloc (.cells #[a,b] 112)).alloc (.cells #[u,v] 112)) w1) :
  Held2 w (w.heap.size + 1) w.heap.size w1.heap.size a b c d (w1.alloc (.cells #[c,d] 112)):=by
 have hk:Kept w (w.heap.size + 1) 112 w1:=by
  have:=((Kept.start (w.alloc (.cells #[a,b] 112)) u v 112).call hb).down (zqab w _);simpa using this
 have hs:=hb.size;simp only [World.size_alloc] at hs;have h2:=zqab w1 (.cells #[c,d] 112);refine ⟨?_,?_,by simp [go_sem],by simp [go_sem],hk.call h2,by omega,by omega⟩
 ·exact cell_later h2 (cell_later hb (by simp [go_sem]))
 ·exact cell_later h2 (cell_later hb (by simp [go_sem]))
theorem zqo2 {x:Int} {n:Nat} (h:n % 2 = 1):x ^ (n / 2) * x ^ (n / 2) * x = x ^ n:=by
 rw [← Int.pow_add,← Int.pow_succ]; congr 1; omega
theorem zqno {x:Int} {n:Nat} (h:n % 2 = 0):x ^ (n / 2) * x ^ (n / 2) = x ^ n:=by
 rw [← Int.pow_add]; congr 1; omega
set_option maxHeartbeats 2000000 in
theorem zqvw (s:Nat) (k:Nat):∀ (v:Value) (x i:Int) (n:Nat) (w:World),n ≤ k → Hid (i = (n:Int)) → s * n + 2 ≤ 274877906944 → n ≤ 1099511627776 → IsNum w v x → Sized s x →
  Calls Tryz.prog 243 #[v,.int .i64 i] w (MadeNum w (x ^ n)):=by
 induction k with
 | zero =>
  intro v x i n w hn hi _ _ hv _;obtain rfl:n = 0:=by omega
  exact (zqko v x i w hv (by have:=hi.out; omega)).mono (MadeNum.to (by simp))
 | succ k ih =>
  intro v x i n w hn hi hs hn2 hv hx
  by_cases h0:n = 0
  ·subst h0;exact (zqko v x i w hv (by have:=hi.out; omega)).mono (MadeNum.to (by simp))
  ·have hi0:0 < i:=by have:=hi.out; omega
   have hi2:i ≤ 1099511627776:=by have:=hi.out; omega
   obtain ⟨b1,p1,l1,c1,rfl⟩:=hv.shape;have hsn:s * (n / 2) ≤ s * n:=Nat.mul_le_mul_left _ (by omega)
   have HP:=zh (fun w1 (hb:Below w.heap.size w w1) => ih _ x (i / 2) (n / 2) w1 (by omega) (zh (by have:=hi.out; omega)) (by omega) (by omega) (hv.below hb) hx)
   clear ih;have hsz:Sized (s * n + 2) (x ^ (n / 2)):=(zqm5 hx (n / 2)).mono (by omega)
   have hn1:s ≤ s * n:=Nat.le_mul_of_pos_right s (by omega)
   have hxs:Sized (s * n + 2) x:=hx.mono (by omega)
   have hqq:Sized (s * n + 2) (x ^ (n / 2) * x ^ (n / 2)):=by
    rw [← Int.pow_add];refine (zqm5 hx _).mono ?_;have:s * (n / 2 + n / 2) ≤ s * n:=Nat.mul_le_mul_left _ (by omega)
    omega
   have hm2:n % 2 = 1 ∨ n % 2 = 0:=by omega
   have HX:=zh hv;clear hv;have KM:=zh (fun w1 (u v:Value) (y z:Int) (hu:IsNum w1 u y) (hv:IsNum w1 v z) (hy:Sized (s * n + 2) y) (hz:Sized (s * n + 2) z) => zqb1 u v y z _ w1 hu hv hy hz (by omega))
   rcases hm2 with hm | hm
   ·have hq:(i % 2 == 1) = true:=by have:=hi.out; simp; omega
    have HE:=zh (zqo2 (x:=x) hm);clear hm hi;go_enter Tryz.func243,Tryz.ntmps243;go_wp2_with fail;refine (HP.out _ (zqa4 w _ _)).mono ?_; rintro e w1 ⟨h,rfl,hh,hb⟩;obtain ⟨b3,p3,l3,c3,rfl⟩:=hh.shape;have hH:=zh (zqkn (c:=.bool b3) (d:=.slice p3 l3 c3) hb);have hbw:=zh ((zqa4 w _ _).trans (hb.mono (by simp; omega)))
    have hhn:=zh (hh.below (zqab w1 (.cells #[.bool b3,.slice p3 l3 c3] 112)));have hxn:=zh ((HX.out.below hbw.out).below (zqab w1 (.cells #[.bool b3,.slice p3 l3 c3] 112)));clear hh hb HP HX;go_wp2_with fail;have hk:=hH.out.drew;go_region_held3 (fun w' => w'.cell? ⟨w.heap.size,0,none⟩ = some (.bool b1) ∧ w'.cell? ⟨w.heap.size,1,none⟩ = some (.slice p1 l1 c1) ∧ w'.cell? ⟨w1.heap.size,0,none⟩ = some (.bool b3) ∧ w'.cell? ⟨w1.heap.size,1,none⟩ = some (.slice p3 l3 c3) ∧ Kept w (w.heap.size + 1) 112 w' ∧ w.heap.size + 1 ≠ w.heap.size ∧ w.heap.size + 1 ≠ w1.heap.size)
     (first | exact hk | exact hk.store _ _)
     (first
      | (go_at_call_of 154 (Value.bool b3); refine (KM.out _ _ _ _ _ (hhn.out.below (Below.refl _ _).drew) (hhn.out.below (Below.refl _ _).drew) hsz hsz).mono ?_; rintro e w2 ⟨q,rfl,hq2,hb2⟩; have hk:=hk.call hb2)
      | (go_at_call_of 154 q; refine (KM.out _ _ _ _ _ hq2 ((hxn.out.below (Below.refl _ _).drew).below hb2) hqq hxs).mono ?_; rintro e w3 ⟨r,rfl,hr,hb3⟩; have hk:=hk.call hb3; obtain ⟨rn,rp,rl,rc,rfl⟩:=hr.shape; obtain ⟨⟨x1,hx1⟩,⟨y1,hy1⟩,hf1,hf2⟩:=hk.2.2.2.2.1.cells))
    have hN:=hk.2.2.2.2.1.num hr;have hE:=(hk.2.2.2.2.1.store (.bool rn) (.slice rp rl rc)).1;rw [HE.out] at hN;clear hk hr;go_wp2_with fail;exact bodyPost_ret (v:=.agg #[.bool rn,.slice rp rl rc]) (by simp [results,Tryz.results243,go_sem,hx1,hy1]) rfl ⟨_,rfl,hN,hE⟩
   ·have hq:(i % 2 == 1) = false:=by have:=hi.out; simp; omega
    have HE:=zh (zqno (x:=x) hm);clear hm hi;go_enter Tryz.func243,Tryz.ntmps243;go_wp2_with fail;refine (HP.out _ (zqa4 w _ _)).mono ?_; rintro e w1 ⟨h,rfl,hh,hb⟩;obtain ⟨b3,p3,l3,c3,rfl⟩:=hh.shape;have hH:=zh (zqkn (c:=.bool b3) (d:=.slice p3 l3 c3) hb);have hbw:=zh ((zqa4 w _ _).trans (hb.mono (by simp; omega)))
    have hhn:=zh (hh.below (zqab w1 (.cells #[.bool b3,.slice p3 l3 c3] 112)));have hxn:=zh ((HX.out.below hbw.out).below (zqab w1 (.cells #[.bool b3,.slice p3 l3 c3] 112)));clear hh hb HP HX;go_wp2_with fail;have hk:=hH.out;refine (KM.out _ _ _ _ _ hhn.out hhn.out hsz hsz).mono ?_; rintro e w2 ⟨r,rfl,hr,hb2⟩;have hk:=hk.call hb2;obtain ⟨rn,rp,rl,rc,rfl⟩:=hr.shape;obtain ⟨⟨x1,hx1⟩,⟨y1,hy1⟩,hf1,hf2⟩:=hk.2.2.2.2.1.cells;have hN:=hk.2.2.2.2.1.num hr;have hE:=(hk.2.2.2.2.1.store (.bool rn) (.slice rp rl rc)).1;rw [HE.out] at hN;clear hk hr;go_wp2_with fail;exact bodyPost_ret (v:=.agg #[.bool rn,.slice rp rl rc]) (by simp [results,Tryz.results243,go_sem,hx1,hy1]) rfl ⟨_,rfl,hN,hE⟩
end Go.Proofs.YtpgchfihedcdkaaGreatDoor
namespace Go.Proofs.YtpgchfihedcdkaaGreatDoor
set_option maxRecDepth 100000
open Go.RowKit
set_option linter.unusedVariables false
theorem zqfx {w w':World} (h:Below w.drew.heap.size w.drew w'):Below w.heap.size w w':=(Below.refl _ _).drew.trans h
def NumBox (w:World) (N:Nat) (z:Int) (wr:World):Prop :=
 (∃ x y,wr.cell? ⟨N,0,none⟩ = some x ∧ wr.cell? ⟨N,1,none⟩ = some y ∧ IsNum wr (.agg #[x,y]) z) ∧ Kept w N 112 wr
theorem zqkv {w w1:World} {N:Nat} {T:TypeId} (h:Kept w N T w1) (u v:Value) :
  ((w1.setCell ⟨N,0,none⟩ u).setCell ⟨N,1,none⟩ v).cell? ⟨N,0,none⟩ = some u ∧ ((w1.setCell ⟨N,0,none⟩ u).setCell ⟨N,1,none⟩ v).cell? ⟨N,1,none⟩ = some v:=by
 obtain ⟨h1,h2,x,y,h3⟩:=h;have h4:=zqgg (u:=u) (v:=v) h3;exact ⟨by simp [World.cell?,h4],by simp [World.cell?,h4]⟩
theorem zqt5 {w w2:World} {N:Nat} {u s:Value} {z:Int} (hk:Kept w N 112 w2) (hq:IsNum w2 (.agg #[u,s]) z):NumBox w N z ((w2.setCell ⟨N,0,none⟩ u).setCell ⟨N,1,none⟩ s) :=
 ⟨⟨u,s,(zqkv hk u s).1,(zqkv hk u s).2,hk.num hq⟩,hk.store u s⟩
theorem Kept.far {w w1:World} {R N:Nat} {T:TypeId} (h:Kept w R T w1) (hne:R ≠ N) (hN:w.heap.size ≤ N) (u v:Value):Kept w R T ((w1.setCell ⟨N,0,none⟩ u).setCell ⟨N,1,none⟩ v):=by
 obtain ⟨h1,h2,x,y,h3⟩:=h;refine ⟨(h1.setCell hN u).setCell hN v,h2,x,y,?_⟩;rw [Below.heap_setCell _ _ _ _ hne,Below.heap_setCell _ _ _ _ hne]; exact h3
theorem NumBox.cells {w w1:World} {N:Nat} {z:Int} (h:NumBox w N z w1):∃ nb np nl nc,w1.cell? ⟨N,0,none⟩ = some (.bool nb) ∧ w1.cell? ⟨N,1,none⟩ = some (.slice np nl nc) ∧ IsNum w1 (.agg #[.bool nb,.slice np nl nc]) z:=by
 obtain ⟨⟨x,y,h1,h2,h3⟩,h4⟩:=h;obtain ⟨nb,np,nl,nc,e⟩:=h3.shape;simp only [Value.agg.injEq,Array.mk.injEq,List.cons.injEq,and_true] at e;obtain ⟨rfl,rfl⟩:=e;exact ⟨nb,np,nl,nc,h1,h2,h3⟩
theorem zqsc {w:World}:IsNum w (.agg #[.bool false,.slice none 0 0]) 0:=⟨false,_,[],rfl,⟨none,0,rfl,by simp,.inl rfl⟩,Typed.none,Dig.nil,.inl rfl,(fun e => by cases e),rfl⟩
theorem zq14 (n:Nat):(4294967296:Int) ^ n ≤ 1000 ^ (4 * n):=by
 have:(4294967296:Nat) ^ n ≤ (1000 ^ 4) ^ n:=Nat.pow_le_pow_left (by decide) n
 rw [← Nat.pow_mul] at this;have e1:((4294967296 ^ n:Nat):Int) = (4294967296:Int) ^ n:=by simp
 have e2:((1000 ^ (4 * n):Nat):Int) = (1000:Int) ^ (4 * n):=by simp
 omega
theorem zqf3 {z:Int} {n:Nat} (h0:0 ≤ z) (h1:z < 4294967296 ^ n):Sized (4 * n) z:=by
 have:=zq14 n;have:=p_pos (4 * n);unfold Sized;omega
theorem zqky {x:Int} (h0:0 ≤ x) (h1:x ≤ 4294967296) (n:Nat):Sized (4 * n + 4) x:=by
 have h2:=zqdk (m:=4) (n:=4 * n + 4) (by omega)
 have e:(1000:Int) ^ 4 = 1000000000000:=by decide
 unfold Sized;omega
theorem zqx8 {a:List Int} {n:Nat} (hn:n < a.length) (x:Int) (hx:a.getD n 0 = x):wv (a.drop n) = wv (a.drop (n + 1)) * 4294967296 + x:=by
 have:=zqlx (a:=a.drop n) (by rw [List.length_drop]; omega)
 have e:(a.drop n).getD 0 0 = x:=by rw [← hx]; simp [List.getD]
 rw [this,e,List.drop_drop]; omega
theorem zqql {a:List Int} (hd:Wd a) (n:Nat):0 ≤ wv (a.drop n) ∧ wv (a.drop n) < 4294967296 ^ a.length:=by
 have h1:=zqcq (hd.drop n);have h2:=zqh5 (m:=(a.drop n).length) (n:=a.length) (by rw [List.length_drop]; omega)
 omega
set_option maxHeartbeats 2000000 in
theorem zqvx (v:Value) (a:List Int) (w:World) (hv:WList w v a) (la:a.length ≤ 1000000) :
  Calls Tryz.prog 120 #[v] w (MadeNum w (wv a)):=by
 have HV:=zh hv;obtain ⟨p,c,rfl⟩:=hv.shape;clear hv;have HR0:=zh (And.intro ((Kept.start w (.bool false) (.slice none 0 0) 112).call (zqab _ (.cells #[.bool false,.slice none 0 0] 112)))
  (And.intro (⟨_,_,by simp [go_sem],by simp [go_sem],zqsc⟩:∃ x y,((w.alloc (.cells #[.bool false,.slice none 0 0] 112)).alloc (.cells #[.bool false,.slice none 0 0] 112)).cell? ⟨w.heap.size + 1,0,none⟩ = some x ∧ ((w.alloc (.cells #[.bool false,.slice none 0 0] 112)).alloc (.cells #[.bool false,.slice none 0 0] 112)).cell? ⟨w.heap.size + 1,1,none⟩ = some y ∧ IsNum ((w.alloc (.cells #[.bool false,.slice none 0 0] 112)).alloc (.cells #[.bool false,.slice none 0 0] 112)) (.agg #[x,y]) 0)
   (by have:=Kept.start (w.alloc (.cells #[.bool false,.slice none 0 0] 112)) (.bool false) (.slice none 0 0) 112; simp only [World.size_alloc] at this; exact this.down (zqab w _))))
 go_enter Tryz.func120,Tryz.ntmps120;go_wp2_with fail;go_loopw [4] (fun i wr => ∃ (m:Nat) (z:Int),Hid (z = (m:Int) - 1) ∧ -1 ≤ z ∧ z ≤ 1000000 ∧ m ≤ a.length ∧ i = .int .i64 z ∧ Hid (Kept w w.heap.size 112 wr ∧ NumBox w (w.heap.size + 1) (wv (a.drop m)) wr)) (fun i _ => (intOf i + 1).toNat)
 case atStart => exact ⟨a.length,_,zh rfl,by omega,by omega,Nat.le_refl _,rfl,zh ⟨HR0.out.1,by rw [List.drop_length]; exact HR0.out.2.1,HR0.out.2.2⟩⟩
 case round =>
  obtain ⟨m,z,hz,hz1,hz2,hm,rfl,hS⟩:=hrel;clear HR0
  by_cases h0:0 ≤ z
  ·obtain ⟨n,rfl⟩:∃ n,m = n + 1:=⟨m - 1,by have:=hz.out; omega⟩
   have hzn:z = (n:Int):=by have:=hz.out; omega
   clear hz;subst hzn;obtain ⟨nb,np,nl,nc,hx,hy,hnum⟩:=hS.out.2.cells;obtain ⟨b1,o1,hp1,hb1,hc⟩:=HV.out.1.cell (i:=n) hm;subst hp1;have hc:=cell_later hS.out.1.1 hc;have hi0:(0:Int) ≤ (n:Int):=by omega
   have hi1:(n:Int) < (a.length:Int):=by omega
   have dx:=HV.out.2.1.getD n;have hdv:=zh (fun (x:Int) (hx:a.getD n 0 = x) => zqx8 hm x hx)
   have hr1:=zqql HV.out.2.1 n;have hr2:=zqql HV.out.2.1 (n + 1);generalize a.getD n 0 = x at *;have hdv2:=zh (hdv.out x rfl);clear hdv;have e6:IntKind.u64.wrap x = x:=by rw [IntKind.wrap_u64]; omega
   have HRg:=zh (And.intro hr1 hr2);generalize wv (a.drop (n + 1)) = H at *;have HN:=zh hnum;have HM:=zh (fun w1 q (hb:Below wr.heap.size wr w1) (hq:IsNum w1 q 4294967296) => zqb1 _ q H 4294967296 (4 * a.length + 4) w1 (HN.out.below hb) hq ((zqf3 HRg.out.2.1 HRg.out.2.2).mono (by omega)) (zqky (by decide) (by decide) _) (by omega))
   have HA:=zh (fun w1 q y (hq:IsNum w1 q (H * 4294967296)) (hy:IsNum w1 y x) => zqis q y (H * 4294967296) x (4 * a.length + 4) w1 hq hy ((zqf3 (n:=a.length) (by have:=HRg.out.2.1; omega) (by have:=hdv2.out; have:=HRg.out.1.2; omega)).mono (by omega)) (zqky dx.1 (by omega) _) (by omega))
   obtain ⟨x0,x1⟩:=dx;clear hnum hr1 hr2 hb1;go_wp2_with fail;go_region_with (first
    | (go_at_call_of 195 (4294967296:Int); refine (zqbo 4294967296 _ (by decide) (by decide)).mono ?_; rintro e w1 ⟨q,rfl,hq,hb1⟩; replace hb1:=zqfx hb1; have hx1:=cell_later hb1 hx; have hy1:=cell_later hb1 hy; have hc1:=cell_later hb1 hc)
    | (go_at_call 154; refine (HM.out _ _ hb1 hq).mono ?_; rintro e w2 ⟨mm,rfl,hmm,hb2⟩; have hc2:=cell_later hb2 hc1)
    | (go_at_call 195; refine (zqbo x _ x0 (by omega)).mono ?_; rintro e w3 ⟨y,rfl,hyy,hb3⟩)
    | (go_at_call 136; refine (HA.out _ _ _ (hmm.below hb3) hyy).mono ?_; rintro e w4 ⟨r,rfl,hr,hb4⟩; have hb14:=hb1.trans ((hb2.trans ((hb3.trans (hb4.mono hb3.size)).mono hb2.size)).mono hb1.size); have hk4:=hS.out.2.2.call hb14; have hR4:=hS.out.1.call hb14; obtain ⟨rn,rp,rl,rc,rfl⟩:=hr.shape; obtain ⟨⟨x2,hx2⟩,⟨y2,hy2⟩,hf1,hf2⟩:=hk4.cells))
   all_goals
    have hB:=zh (zqt5 hk4 hr);have hR5:=zh (hR4.far (N:=w.heap.size + 1) (by omega) (by omega) (.bool rn) (.slice rp rl rc))
    rw [← hdv2.out] at hB;clear hk4 hR4 hr hb14 hb1 hb2 hb3 hb4 hq hmm hyy hx1 hy1 hc1 hc2 hx2 hy2 hf1 hf2 hx hy hc HM HA HN hS HRg;go_wp2_with fail;go_roundw
    case rel => exact ⟨n,_,zh rfl,by omega,by omega,by omega,by go_num,zh ⟨hR5.out,hB.out⟩⟩
    case measure => simp [intOf]
  ·obtain rfl:m = 0:=by have:=hz.out; omega
   obtain ⟨nb,np,nl,nc,hx,hy,hnum⟩:=hS.out.2.cells;rw [List.drop_zero] at hnum;have hk:=hS.out.1;obtain ⟨⟨x1,hx1⟩,⟨y1,hy1⟩,hf1,hf2⟩:=hk.cells;have hN:=zh (hk.num hnum);have hE:=zh ((hk.store (.bool nb) (.slice np nl nc)).1);clear hS hnum hk;go_wp2_with fail;exact bodyPost_ret (v:=.agg #[.bool nb,.slice np nl nc]) (by simp [results,Tryz.results120,go_sem,hx1,hy1]) rfl ⟨_,rfl,hN.out,hE.out⟩
set_option maxHeartbeats 1000000 in
theorem zqiv (n:Int) (N:Nat) (hn:Hid (n = (N:Int))) (w:World) (hN:N ≤ 1000000):Calls Tryz.prog 205 #[.int .i64 n] w (MadeNum w (2 ^ N)):=by
 have hk0:=zh (Kept.start w (.bool false) (.slice none 0 0) 112);go_enter Tryz.func205,Tryz.ntmps205;go_wp2_with fail;refine (zqbo 2 _ (by decide) (by decide)).mono ?_; rintro e w1 ⟨q,rfl,hq,hb1⟩
 have HP:=zh (zqvw 8 N q 2 n N w1 (Nat.le_refl _) hn (by omega) (by omega) hq (sized8 (by decide) (by decide)))
 have HK:=zh (hk0.out.call hb1);clear hk0 hb1 hq;go_wp2_with fail;refine (HP.out).mono ?_; rintro e w2 ⟨r,rfl,hr,hb2⟩;have hk:=HK.out.call hb2;obtain ⟨rn,rp,rl,rc,rfl⟩:=hr.shape;obtain ⟨⟨x1,hx1⟩,⟨y1,hy1⟩,hf1,hf2⟩:=hk.cells;have hN2:=hk.num hr;have hE:=(hk.store (.bool rn) (.slice rp rl rc)).1;clear hk hr hb2 HK HP;go_wp2_with fail;exact bodyPost_ret (v:=.agg #[.bool rn,.slice rp rl rc]) (by simp [results,Tryz.results205,go_sem,hx1,hy1]) rfl ⟨_,rfl,hN2,hE⟩
theorem zqna {x:Int} {t:List Int} (h:Tidy (x :: t)):Tidy t:=by
 by_cases e:t = []
 ·exact .inl e
 ·refine .inr ?_;have h1:=h.resolve_left (by simp)
  have hl:0 < t.length:=List.length_pos_iff.2 e;have e2:(x :: t).getD ((x :: t).length - 1) 0 = t.getD (t.length - 1) 0:=by
   obtain ⟨n,hn⟩:∃ n,t.length = n + 1:=⟨t.length - 1,by omega⟩
   simp [List.getD,hn]
  rw [e2] at h1; exact h1
theorem zqrd (x:Int) (t:List Int):wv (x :: t) = x + 4294967296 * wv t:=by
 have:=zqlx (a:=x :: t) (by simp)
 simpa using this
theorem zqd7:∀ {a b:List Int},Wd a → Wd b → Tidy a → Tidy b → wv a = wv b → a = b
 | [],b,_,hb,_,tb,h => by
  have:=(tb.wzero hb).1 (by rw [← h]; rfl)
  exact this.symm
 | x :: t,[],ha,_,ta,_,h => (ta.wzero ha).1 (by rw [h]; rfl)
 | x :: t,y :: s,ha,hb,ta,tb,h => by
  rw [zqrd,zqrd] at h;have hx:=ha x (by simp)
  have hy:=hb y (by simp)
  have e:x = y:=by omega
  have e2:wv t = wv s:=by omega
  rw [e,zqd7 (fun z hz => ha z (List.mem_cons_of_mem _ hz)) (fun z hz => hb z (List.mem_cons_of_mem _ hz)) (zqna ta) (zqna tb) e2]
theorem zqnn {z:Int} {m n:Nat} (h:Halved z m) (k:Halved z n):m = n:=by
 have key:∀ (m n a b:Nat),m < n → (2:Int) ^ m * (2 * a + 1) = 2 ^ n * (2 * b + 1) → False:=fun m n a b hmn e => by
  obtain ⟨d,rfl⟩:∃ d,n = m + d + 1:=⟨n - m - 1,by omega⟩
  rw [show m + d + 1 = m + (d + 1) from rfl,Int.pow_add,Int.mul_assoc] at e;have hp:(2:Int) ^ m ≠ 0:=by have:(0:Int) < 2 ^ m:=Int.pow_pos (by decide); omega
  have e2:=Int.eq_of_mul_eq_mul_left hp e;rw [Int.pow_succ,Int.mul_comm (2 ^ d) 2,Int.mul_assoc] at e2;omega
 have pos:∀ (n a:Nat),(2:Int) ^ n * (2 * a + 1) ≠ 0:=fun n a e => by
  have:(0:Int) < 2 ^ n * (2 * a + 1):=Int.mul_pos (Int.pow_pos (by decide)) (by omega)
  omega
 rcases h with ⟨h1,h2⟩ | ⟨a,h1⟩
 ·rcases k with ⟨k1,k2⟩ | ⟨b,k1⟩
  ·omega
  ·exact absurd (k1.symm.trans h1) (pos n b)
 ·rcases k with ⟨k1,k2⟩ | ⟨b,k1⟩
  ·exact absurd (h1.symm.trans k1) (pos m a)
  ·rcases Nat.lt_trichotomy m n with q | q | q
   ·exact (key m n a b q (h1.symm.trans k1)).elim
   ·exact q
   ·exact (key n m b a q (k1.symm.trans h1)).elim
end Go.Proofs.YtpgchfihedcdkaaGreatDoor
namespace Go.Proofs.YtpgchfihedcdkaaGreatDoor
set_option maxRecDepth 100000
open Go.ChangeShapes Go.WideShapes Go.ChangeAt Go.RowKit
set_option linter.unusedVariables false
theorem own2:ownKnob Tryz.prog.godebug = none:=by kernel_rfl
theorem laidOut2:laidOutB Tryz.prog = true:=by kernel_rfl
theorem gTab : Tryz.prog.globalNamed "math/bits.deBruijn32tab" = some 1 := by kernel_rfl
theorem tTab:(Tryz.prog.globals[1]?).map (·.type) = some 332:=by kernel_rfl
def tabInts:List Int:=[0,1,28,2,29,14,24,3,30,22,20,15,25,17,4,8,31,27,13,23,21,19,16,7,26,12,18,6,11,5,10,9]
abbrev Four' (R:Nat) (a b c d:Value) (w':World):Prop:=w'.cell? ⟨R,0,none⟩ = some a ∧ w'.cell? ⟨R,1,none⟩ = some b ∧ w'.cell? ⟨R + 1,0,none⟩ = some c ∧ w'.cell? ⟨R + 1,1,none⟩ = some d
theorem Four'.call {R:Nat} {a b c d:Value} {w1 w2:World} (h:Four' R a b c d w1) (hb:Below w1.heap.size w1 w2):Four' R a b c d w2:=⟨cell_later hb h.1,cell_later hb h.2.1,cell_later hb h.2.2.1,cell_later hb h.2.2.2⟩
end Go.Proofs.YtpgchfihedcdkaaGreatDoor
namespace Go.Proofs.YtpgchfihedcdkaaGreatDoor
set_option maxRecDepth 100000
open Go.RowKit
set_option linter.unusedVariables false
theorem zqed {W w2:World} (hb:Below W.drew.heap.size W.drew w2):Below W.heap.size W w2:=(Below.refl _ _).drew.trans hb
theorem zqfs {w w1:World} {N:Nat} {T:TypeId} (h:Kept w N T w1) (u v:Value) :
  ((w1.setCell ⟨N,0,none⟩ u).setCell ⟨N,1,none⟩ v).cell? ⟨N,0,none⟩ = some u ∧ ((w1.setCell ⟨N,0,none⟩ u).setCell ⟨N,1,none⟩ v).cell? ⟨N,1,none⟩ = some v:=by
 obtain ⟨h1,h2,x,y,h3⟩:=h;have h4:=zqgg (u:=u) (v:=v) h3;exact ⟨by simp [World.cell?,h4],by simp [World.cell?,h4]⟩
abbrev SixAt (X M P:Nat) (a b c d e f:Value) (w:World):Prop :=
 (w.cell? ⟨X,0,none⟩ = some a ∧ w.cell? ⟨X,1,none⟩ = some b) ∧ (w.cell? ⟨M,0,none⟩ = some c ∧ w.cell? ⟨M,1,none⟩ = some d) ∧ (w.cell? ⟨P,0,none⟩ = some e ∧ w.cell? ⟨P,1,none⟩ = some f)
theorem SixAt.call {X M P:Nat} {a b c d e f:Value} {w w':World} (h:SixAt X M P a b c d e f w) (hb:Below w.heap.size w w'):SixAt X M P a b c d e f w':=by
 obtain ⟨⟨h1,h2⟩,⟨h3,h4⟩,h5,h6⟩:=h;exact ⟨⟨cell_later hb h1,cell_later hb h2⟩,⟨cell_later hb h3,cell_later hb h4⟩,cell_later hb h5,cell_later hb h6⟩
end Go.Proofs.YtpgchfihedcdkaaGreatDoor
namespace Go.Proofs.YtpgchfihedcdkaaGreatDoor
set_option maxRecDepth 100000
open Go.RowKit
set_option linter.unusedVariables false
def Tab64 (w:World):Prop:=TabAt 2 Lib.deBruijn64tab w
theorem Tab64.call {w w':World} (h:Tab64 w) (hb:Below w.heap.size w w'):Tab64 w':=fun j hj => cell_later hb (h j hj)
set_option maxHeartbeats 1000000 in
theorem tz64_core (x k idx:Nat) (w:World) (hx0:((x:Int) == 0) = false)
  (key:IntKind.u64.wrap (bits BinOp.and IntKind.u64 (x:Int) (IntKind.u64.wrap (-(x:Int))) * 285870213051353865) / 288230376151711744 = (idx:Int))
  (hi:idx < 64) (hk:k < 64) (hcell:w.cell? ⟨2,idx,none⟩ = some (.int .u8 k)) :
  Calls Tryz.prog 278 #[.int .u64 x] w fun e w' => e = .returned (.int .i64 k) ∧ w = w':=by
 go_enter Tryz.func278,Tryz.ntmps278;go_wp2_with (simp only [key]);go_ret;exact ⟨rfl,rfl⟩
theorem zq0x (x:Nat) (hx:x < 18446744073709551616) (hx0:x ≠ 0) (w:World) (hT:Tab64 w) :
  Calls Tryz.prog 278 #[.int .u64 x] w fun e w' => e = .returned (.int .i64 (Lib.ctz 64 x)) ∧ w = w':=by
 obtain ⟨hlow,hk⟩:=Lib.lowest_bit 64 x hx0 hx;obtain ⟨hi,htab⟩:=Lib.deBruijn64_at _ hk;have hcell:=hT _ hi;rw [htab] at hcell;exact tz64_core x _ _ w (by simp; omega) (tz64_key x _ hx hx0 hlow) hi hk hcell
def NormPost (c:Nat) (q:Int) (w:World) (e:Ending) (w':World):Prop:=(∃ (d:Nat) (p k:Int),4503599627370496 ≤ d ∧ d < 9007199254740992 ∧ -1074 ≤ p ∧ p ≤ 971 ∧ SameD d (p + k) c q ∧ -52 ≤ k ∧ k ≤ 0 ∧ e = .returned (.tuple #[.float .f64 (rungOf d p),.int .i64 k])) ∧ w = w'
theorem zqzl {c:Nat} (h0:c ≠ 0) (h1:c < 4503599627370496):∃ d p,4503599627370496 ≤ d ∧ d < 9007199254740992 ∧ -1074 ≤ p ∧ p ≤ 971 ∧ SameD d (p + -52) c (-1074) ∧ floatBits .mul .f64 (rungOf c (-1074)) 4841369599423283200 = some (rungOf d p):=by
 obtain ⟨d,p,k1,k2,k3⟩:=zqgo _ c (-1022) (Nat.le_refl _) (by omega) (by omega)
 have hd:4503599627370496 ≤ d:=by
  obtain ⟨a,b,h | h⟩:=k2
  ·exact h
  ·subst h;obtain ⟨k,⟨g1,g2⟩ | ⟨g1,g2⟩⟩:=k1
   ·obtain rfl:k = 52:=by omega
    omega
   ·omega
 have hc:Canon c (-1074):=⟨by omega,by omega,.inr rfl⟩
 have h52:FV false 4841369599423283200 1 52:=⟨4503599627370496,0,⟨52,.inl ⟨by decide,by decide⟩⟩,⟨by decide,by decide,.inl (by decide)⟩,by decide,by decide⟩
 refine ⟨d,p,hd,k2.1,k2.2.1,by omega,?_,zqhq (fvc hc (by omega)) h52 ?_⟩
 ·have:=(k1.add (-52)).symm;exact this
 ·rw [Nat.mul_one];exact (fvc k2 (by omega)).same k1
set_option maxHeartbeats 1000000 in
theorem zqzk (c:Nat) (q:Int) (w:World) (hc:Canon c q) (hq:q ≤ 971) (h0:c ≠ 0) :
  Calls Tryz.prog 291 #[.float .f64 (rungOf c q)] w (NormPost c q w):=by
 have hr:=zqbp hc hq;have hw:=(zqcm hc hq).1;have hn:=(zqcm hc hq).2;have hA:=zh (fun w => zqjh (rungOf c q) w hw)
 rw [show rungOf c q % 9223372036854775808 = rungOf c q by omega] at hA
 have hlt:=zqkj hn (y:=4503599627370496) ⟨by decide,by decide⟩
 rw [zqbd (by omega),zqbd (x:=4503599627370496) (by omega)] at hlt
 unfold NormPost
 by_cases h:rungOf c q < 4503599627370496
 ·have hq2:q = -1074:=by obtain ⟨a,b,d⟩:=hc; unfold rungOf at h; omega
  subst hq2;have hc52:c < 4503599627370496:=by unfold rungOf at h; omega
  obtain ⟨d,p,k1,k2,k3,k4,k5,k6⟩:=zqzl h0 hc52;have hl:(FloatKind.f64.format.order (rungOf c (-1074)) 4503599627370496 == some .lt) = true:=by rw [hlt]; simp; omega
  have hop:∀ t w,(binOp .mul t (.float .f64 (rungOf c (-1074))) (.float .f64 4841369599423283200)).run Tryz.prog w = .ok (.float .f64 (rungOf d p)) w:=fun t w => run_float_arith w .mul t .f64 _ _ _ k6
  have hE:=zh (show ∃ (d':Nat) (p' k':Int),4503599627370496 ≤ d' ∧ d' < 9007199254740992 ∧ -1074 ≤ p' ∧ p' ≤ 971 ∧ SameD d' (p' + k') c (-1074) ∧ -52 ≤ k' ∧ k' ≤ 0 ∧ Ending.returned (.tuple #[.float .f64 (rungOf d p),.int .i64 (-52)]) = .returned (.tuple #[.float .f64 (rungOf d' p'),.int .i64 k']) from ⟨d,p,-52,k1,k2,k3,k4,k5,by omega,by omega,rfl⟩)
  generalize rungOf c (-1074) = X at *;generalize rungOf d p = R at *;clear hlt h hc hq h0 hr hw hn hc52 k1 k2 k3 k4 k5 k6;go_enter Tryz.func291,Tryz.ntmps291;go_wp2_with fail;refine (hA.out _).mono ?_; rintro e w1 ⟨rfl,rfl⟩;go_wp2_with (simp only);go_ret2;exact ⟨hE.out,rfl⟩
 ·have hd:4503599627370496 ≤ c:=by obtain ⟨a,b,d⟩:=hc; unfold rungOf at h; omega
  have hl:(FloatKind.f64.format.order (rungOf c q) 4503599627370496 == some .lt) = false:=by rw [hlt]; simp; omega
  have hE:=zh (show ∃ (d':Nat) (p' k':Int),4503599627370496 ≤ d' ∧ d' < 9007199254740992 ∧ -1074 ≤ p' ∧ p' ≤ 971 ∧ SameD d' (p' + k') c q ∧ -52 ≤ k' ∧ k' ≤ 0 ∧ Ending.returned (.tuple #[.float .f64 (rungOf c q),.int .i64 0]) = .returned (.tuple #[.float .f64 (rungOf d' p'),.int .i64 k']) from ⟨c,q,0,hd,hc.1,hc.2.1,hq,by rw [Int.add_zero]; exact SameD.refl _ _,by omega,by omega,rfl⟩)
  generalize rungOf c q = X at *;clear hlt h hc hq h0 hr hw hn hd;go_enter Tryz.func291,Tryz.ntmps291;go_wp2_with fail;refine (hA.out _).mono ?_; rintro e w1 ⟨rfl,rfl⟩;go_wp2_with fail;go_ret2;exact ⟨hE.out,rfl⟩
theorem zqhm {c:Nat} {q:Int} (hc:Canon c q) (hq:q ≤ 971) (h0:c ≠ 0):isNaNB (rungOf c q) = false ∧ isInfB (rungOf c q) = false ∧ isZeroB (rungOf c q) = false ∧ kindI (rungOf c q) = 1:=by
 have hr:=zqbp hc hq;have hp:0 < rungOf c q:=by unfold rungOf; omega
 have h1:isNaNB (rungOf c q) = false:=by unfold isNaNB; simp; omega
 have h2:isInfB (rungOf c q) = false:=by unfold isInfB; simp; omega
 have h3:isZeroB (rungOf c q) = false:=by unfold isZeroB; simp; omega
 exact ⟨h1,h2,h3,by unfold kindI; rw [h1,h2,h3]; rfl⟩
theorem zqwj {a b:Nat} {i j:Int} (h:a = b) (h2:i = j):Ending.returned (.tuple #[.float .f64 a,.int .i64 i]) = .returned (.tuple #[.float .f64 b,.int .i64 j]):=by rw [h,h2]
def FrexpPost (c:Nat) (q:Int) (w:World) (e:Ending) (w':World):Prop:=(∃ (d:Nat) (k:Int),4503599627370496 ≤ d ∧ d < 9007199254740992 ∧ SameD d (k - 53) c q ∧ -1200 ≤ k ∧ k ≤ 1100 ∧ e = .returned (.tuple #[.float .f64 (rungOf d (-53)),.int .i64 k])) ∧ w = w'
theorem zqr4 {d:Nat} {p:Int} (h1:4503599627370496 ≤ d) (h2:d < 9007199254740992) (h3:-1074 ≤ p) (h4:p ≤ 971) :
  (rungOf d p:Int) / 4503599627370496 = p + 1075 ∧ (rungOf d p:Int) % 4503599627370496 = d - 4503599627370496 ∧ (rungOf d p:Int) < 9223372036854775808:=by
 unfold rungOf; omega
set_option maxHeartbeats 2000000 in
theorem zqr5 (c:Nat) (q:Int) (w:World) (hc:Canon c q) (hq:q ≤ 971) (h0:c ≠ 0) :
  Calls Tryz.prog 288 #[.float .f64 (rungOf c q)] w (FrexpPost c q w):=by
 obtain ⟨t1,t2,t3,t4⟩:=zqhm hc hq h0;have hw:=(zqcm hc hq).1;have hZ:=zqcr _ hw;have hI:=zh (fun w => zqmm _ w hw)
 have hN:=zh (fun w => zqee _ w hw)
 rw [t3] at hZ;rw [t2] at hI;rw [t1] at hN;have hM:=zh (fun w => zqzk c q w hc hq h0)
 have hF:=fun x w => fbits x w
 have hG:=fun n w => ffrom n w
 unfold FrexpPost;generalize rungOf c q = X at *;clear t1 t2 t3 t4 hw;go_enter Tryz.func288,Tryz.ntmps288;go_wp2_with fail;refine (hI.out _).mono ?_; rintro e w1 ⟨rfl,rfl⟩;go_wp2_with fail;refine (hN.out _).mono ?_; rintro e w1 ⟨rfl,rfl⟩;go_wp2_with fail;refine (hM.out _).mono ?_; rintro e w1 ⟨⟨d,p,k,k1,k2,k3,k4,k5,k6,k7,rfl⟩,rfl⟩;obtain ⟨b1,b2,b3⟩:=zqr4 k1 k2 k3 k4;have hS:=zh (show SameD d (k + (p + 53) - 53) c q by rw [show k + (p + 53) - 53 = p + k by omega]; exact k5)
 have hv:=zh (show d - 4503599627370496 + 4602678819172646912 = rungOf d (-53) by unfold rungOf; omega)
 have hb0:(0:Int) ≤ (rungOf d p:Int):=by omega
 have hA:=low11 (p + 1075) (by omega) (by omega)
 rw [show (p + 1075) % 2048 = p + 1075 by omega] at hA
 have hC:=clrExp (rungOf d p:Int) hb0 b3;rw [b2] at hC;have hO:=orExp ((d:Int) - 4503599627370496) 1022 (by omega) (by omega) (by omega)
 rw [show ((1022:Nat):Int) * 4503599627370496 = 4602678819172646912 by decide] at hO
 generalize rungOf d p = R at *;clear hI hN hM hZ k5 b2;go_wp2_with (first | simp only | simp only [hC] | simp only [hO])
 go_ret2;exact ⟨⟨d,k + (p + 53),k1,k2,hS.out,by omega,by omega,zqwj hv.out (by omega)⟩,rfl⟩
theorem zquy (c:Nat) (q:Int) (w:World) (hc:Canon c q) (hq:q ≤ 971) (h0:c ≠ 0) :
  Calls Tryz.prog 276 #[.float .f64 (rungOf c q)] w (FrexpPost c q w):=by
 have hM:=zh (fun w => zqr5 c q w hc hq h0)
 unfold FrexpPost at *;generalize rungOf c q = X at *;go_enter Tryz.func276,Tryz.ntmps276;go_wp2_with fail;refine (hM.out _).mono ?_; rintro e w1 ⟨⟨d,k,k1,k2,k3,k4,k5,rfl⟩,rfl⟩;have k3:=zh k3;generalize hv:rungOf d (-53) = R at *;have hv:=zh hv;go_wp2_with fail;go_ret2;exact ⟨⟨d,k,k1,k2,k3.out,k4,k5,zqwj hv.out.symm rfl⟩,rfl⟩
theorem zqr6 {c d:Nat} {q k:Int} (h1:4503599627370496 ≤ d) (h2:d < 9007199254740992) (hs:SameD d (k - 53) c q):Lib.ctz 64 d < 64 ∧ IsSplit c q ((d:Int) / 2 ^ Lib.ctz 64 d) (k - 53 + Lib.ctz 64 d):=by
 obtain ⟨m,hm,hlt⟩:=Lib.ctzFrom_spec 64 d (by omega) (by omega)
 have hc:Lib.ctz 64 d = Lib.ctzFrom 64 d:=by unfold Lib.ctz; rw [if_neg (by omega)]
 rw [hc];generalize Lib.ctzFrom 64 d = t at *;have hp:=zqaw t;have hq:d / 2 ^ t = 2 * m + 1:=by rw [hm]; exact Nat.mul_div_cancel_left _ hp
 have hi:(d:Int) / 2 ^ t = ((2 * m + 1:Nat):Int):=by
  have e:((2:Int) ^ t) = ((2 ^ t:Nat):Int):=by simp
  rw [e,← Int.natCast_ediv,hq]
 have hle:2 * m + 1 ≤ d:=by rw [hm]; exact Nat.le_mul_of_pos_left _ hp
 refine ⟨hlt,?_⟩;rw [hi];refine ⟨by omega,by omega,SameD.trans ⟨t,.inl ⟨by omega,?_⟩⟩ hs,by omega⟩
 rw [Int.toNat_natCast,Nat.mul_comm]; exact hm
def PSplitPost (x c:Nat) (q:Int) (w:World) (e:Ending) (w':World):Prop:=(∃ m k:Int,IsSplit c q m k ∧ e = .returned (.tuple #[.bool (negB x),.int .u64 m,.int .i64 k])) ∧ Drawn w w'
set_option maxHeartbeats 2000000 in
theorem zqsy (x c:Nat) (q:Int) (w:World) (hx:W64 x) (hk:kindI x = 1) (hc:Canon c q) (hq:q ≤ 971) (h0:c ≠ 0) (hr:rungOf c q = x % 9223372036854775808) (hT:Tab64 w) :
  Calls Tryz.prog 257 #[.float .f64 x] w (PSplitPost x c q w):=by
 have hA:=zh (fun w => zqmc x w hx)
 rw [hk] at hA;obtain ⟨g1,g2,g3,g4,g5⟩:=zqdu hx hk;have hL:=zqqt hx g1 g3;have hB:=zh (fun w => zqjh x w hx)
 rw [← hr] at hB;have hF:=zh (fun w => zquy c q w hc hq h0)
 have HT:=zh hT;have h53:FV false 4845873199050653696 1 53:=⟨4503599627370496,1,⟨52,.inl ⟨by decide,by decide⟩⟩,⟨by decide,by decide,.inl (by decide)⟩,by decide,by decide⟩
 have hop:∀ d:Nat,4503599627370496 ≤ d → d < 9007199254740992 → ∀ t w,(binOp .mul t (.float .f64 (rungOf d (-53))) (.float .f64 4845873199050653696)).run Tryz.prog w = .ok (.float .f64 (rungOf d 0)) w:=fun d k1 k2 t w => run_float_arith w .mul t .f64 _ _ _ (zqhq (fvc ⟨k2,by omega,.inl k1⟩ (by omega)) h53 (by rw [Nat.mul_one]; exact fvc ⟨k2,by omega,.inl k1⟩ (by omega)))
 have hcv:∀ d:Nat,4503599627370496 ≤ d → d < 9007199254740992 → ∀ w,(convert 72 28 (.float .f64 (rungOf d 0))).run Tryz.prog w = .ok (.int .u64 (d:Int)) w:=fun d k1 k2 w => run_convert_float_int w 72 28 .f64 .u64 _ _ (by rw [Tryz.underlying72]; rfl) Tryz.underlying28 (by
  have h:=zqnf (c:=d) (q:=0) ⟨k2,by omega,.inl k1⟩ (by omega)
  have e:wholeN d 0 = d:=by unfold wholeN; simp
  rw [e] at h; exact h)
 have Hop:=zh hop;have Hcv:=zh hcv;clear hop hcv hT;unfold PSplitPost;generalize hb:negB x = b at *;generalize rungOf c q = X at *;clear hk hr g1 g2 g3 g4 g5 hc hq h0 hb h53;go_enter Tryz.func257,Tryz.ntmps257;go_wp2_with fail;refine (hA.out _).mono ?_; rintro e w1 ⟨rfl,rfl⟩;go_wp2_with fail;refine (hB.out _).mono ?_; rintro e w1 ⟨rfl,rfl⟩;go_wp2_with fail;refine (hF.out _).mono ?_; rintro e w1 ⟨⟨d,k,k1,k2,k3,k4,k5,rfl⟩,rfl⟩;have hop:=Hop.out d k1 k2;have hcv:=Hcv.out d k1 k2;have hTz:=zh (zq0x d (by omega) (by omega) w HT.out)
 obtain ⟨ht,hs⟩:=zqr6 k1 k2 k3;have hs:=zh hs;generalize rungOf d (-53) = R1 at *;generalize rungOf d 0 = R2 at *;generalize Lib.ctz 64 d = t at *;clear hA hB hF k3;go_wp2_with (first | simp only | simp only [hcv])
 refine (hTz.out).mono ?_; rintro e w1 ⟨rfl,rfl⟩;clear hTz hop hcv;go_wp2_with fail;go_quiet (fail);go_wp2_with fail;go_ret3;exact ⟨⟨_,_,hs.out,rfl⟩,(Drawn.refl _).next _⟩
theorem zqo3 (x:Nat) (w:World) (hx:W64 x) (hk:kindI x ≠ 1) :
  Calls Tryz.prog 257 #[.float .f64 x] w fun e w' => e = .returned (.tuple #[.bool (belowB x),.int .u64 0,.int .i64 0]) ∧ w = w':=by
 have hA:=zh (fun w => zqmc x w hx)
 have hS:=zh (fun w => zqf2 x w hx)
 have k3:=zqdt x;have k1:(kindI x != 1) = true:=by simpa using hk
 unfold belowB;generalize isNaNB x = n at *;generalize negB x = b at *;generalize kindI x = K at *;clear hk;cases n
 ·go_enter Tryz.func257,Tryz.ntmps257;go_wp2_with fail;refine (hA.out _).mono ?_; rintro e w1 ⟨rfl,rfl⟩;go_wp2_with fail;refine (hS.out _).mono ?_; rintro e w1 ⟨rfl,rfl⟩;go_wp2_with fail;go_ret3;exact ⟨rfl,rfl⟩
 ·go_enter Tryz.func257,Tryz.ntmps257;go_wp2_with fail;refine (hA.out _).mono ?_; rintro e w1 ⟨rfl,rfl⟩;go_wp2_with fail;go_ret3;exact ⟨rfl,rfl⟩
set_option maxRecDepth 100000
open Go.RowKit
set_option linter.unusedVariables false
theorem FV.expo {R c:Nat} {q:Int} (h:FV false R c q) (h0:c ≠ 0):-1074 ≤ q + c.log2 ∧ q + c.log2 ≤ 1023:=by
 obtain ⟨d,p,h1,h2,h3,-⟩:=h;have hd:d ≠ 0:=fun e => h0 (h1.zero.2 e)
 have h4:=h1.log2 hd;have h5:=zqdw h2.1;have:=h2.2.1;omega
end Go.Proofs.YtpgchfihedcdkaaGreatDoor
namespace Go.Proofs.YtpgchfihedcdkaaGreatDoor
set_option maxRecDepth 100000
open Go.RowKit
set_option linter.unusedVariables false
def rndN (z n:Nat):Nat:=if 2 ^ n < 2 * (z % 2 ^ n) ∨ (2 ^ n = 2 * (z % 2 ^ n) ∧ z / 2 ^ n % 2 = 1) then z / 2 ^ n + 1 else z / 2 ^ n
theorem zq3j (z n B:Nat) (h:z / 2 ^ n < B):rndN z n ≤ B:=by unfold rndN; split <;> omega
set_option maxRecDepth 100000
open Go.RowKit
set_option linter.unusedVariables false
def rU (L:Nat) (e:Int):Int:=max ((L:Int) + e - 53) (-1074)
def rN (z L:Nat) (e:Int):Nat:=if rU L e ≤ e then z * 2 ^ (e - rU L e).toNat else rndN z (rU L e - e).toNat
def nearW (z:Nat) (e:Int):Nat:=if z = 0 ∨ e + bitsZ z < -1074 then 0 else if 1024 < e + bitsZ z then 9218868437227405312 else Ieee.double.nearest false (rN z (bitsZ z) e) (rU (bitsZ z) e)
theorem zqd2 {z:Nat} (h0:z ≠ 0):z < 2 ^ bitsZ z:=by
 have:=zqf9 (z:=(z:Int)) (by omega)
 have e:((2 ^ bitsZ z:Nat):Int) = (2:Int) ^ bitsZ z:=by simp
 omega
theorem zqgz {z L:Nat} {e:Int} (hL:z < 2 ^ L) (h1:-1074 ≤ e + L) (h2:e + L ≤ 1024) :
  rN z L e ≤ 9007199254740992 ∧ -1074 ≤ rU L e ∧ rU L e ≤ 971 ∧ (rU L e ≤ e → rN z L e = z * 2 ^ (e - rU L e).toNat ∧ z < 9007199254740992) ∧ (e < rU L e → rN z L e = rndN z (rU L e - e).toNat):=by
 have hu:rU L e = max ((L:Int) + e - 53) (-1074):=rfl;unfold rN;generalize rU L e = u at *;have h53:(2:Nat) ^ 53 = 9007199254740992:=by decide
 by_cases h:u ≤ e
 ·rw [if_pos h];have hz:z * 2 ^ (e - u).toNat < 2 ^ 53:=by
   have h3:z * 2 ^ (e - u).toNat < 2 ^ L * 2 ^ (e - u).toNat:=Nat.mul_lt_mul_of_pos_right hL (zqaw _);rw [← Nat.pow_add] at h3;exact Nat.lt_of_lt_of_le h3 (Nat.pow_le_pow_right (by decide) (by omega))
  have hz2:z < 2 ^ 53:=Nat.lt_of_lt_of_le hL (Nat.pow_le_pow_right (by decide) (by omega))
  exact ⟨by omega,by omega,by omega,fun _ => ⟨rfl,by omega⟩,fun q => by omega⟩
 ·rw [if_neg h];have hz:z / 2 ^ (u - e).toNat < 2 ^ 53:=by
   rw [Nat.div_lt_iff_lt_mul (zqaw _),← Nat.pow_add];exact Nat.lt_of_lt_of_le hL (Nat.pow_le_pow_right (by decide) (by omega))
  have:=zq3j z _ _ hz;exact ⟨by omega,by omega,by omega,fun q => absurd q h,fun _ => rfl⟩
def IsFl (r:Nat) (k:Int) (R:Nat):Prop:=(r = 0 ∧ R = 0) ∨ (r ≠ 0 ∧ FV false R r k) ∨ (r = 9007199254740992 ∧ k = 971 ∧ R = 9218868437227405312)
theorem zqml {r:Nat} {u:Int} (hr:r ≤ 9007199254740992) (h1:-1074 ≤ u) (h2:u ≤ 971):IsFl r u (Ieee.double.nearest false r u):=by
 by_cases h0:r = 0
 ·subst h0; exact .inl ⟨rfl,zqh0 false u⟩
 ·by_cases h53:r = 9007199254740992
  ·subst h53;have hs:SameD 9007199254740992 u 4503599627370496 (u + 1):=⟨1,.inr ⟨rfl,rfl⟩⟩;have hc:Canon 4503599627370496 (u + 1):=⟨by decide,by omega,.inl (by decide)⟩
   by_cases hu:u = 971
   ·subst hu;refine .inr (.inr ⟨rfl,rfl,?_⟩);rw [zqeh false hs hc (by decide)]; decide
   ·have hf:=(fvc hc (by omega)).same hs
    refine .inr (.inl ⟨by decide,?_⟩)
    rw [hf.nearest (SameD.refl _ _)]; exact hf
  ·obtain ⟨R,hR⟩:=FV.make false (c:=r) (q:=u) (by omega) h1 h2
   refine .inr (.inl ⟨h0,?_⟩);rw [hR.nearest (SameD.refl _ _)]; exact hR
theorem zqr3 {r:Nat} (h0:r ≠ 0) (hr:r ≤ 9007199254740992):∃ c q,Canon c q ∧ q ≤ 1 ∧ c ≠ 0 ∧ SameD r 0 c q ∧ floatOfInt .f64 (r:Int) = rungOf c q:=by
 by_cases h53:r = 9007199254740992
 ·subst h53;have hs:SameD 9007199254740992 0 4503599627370496 1:=⟨1,.inr ⟨rfl,rfl⟩⟩;have hc:Canon 4503599627370496 1:=⟨by decide,by decide,.inl (by decide)⟩
  exact ⟨4503599627370496,1,hc,by omega,by decide,hs,zquz ((fvc hc (by omega)).same hs)⟩
 ·obtain ⟨d,p,h1,h2,h3,h4⟩:=zqn9 (n:=r) (by omega)
  exact ⟨d,p,h1,by omega,fun e => h0 (h3.zero.2 e),h3,h4⟩
end Go.Proofs.YtpgchfihedcdkaaGreatDoor
namespace Go.Proofs.YtpgchfihedcdkaaGreatDoor
set_option maxRecDepth 100000
open Go.RowKit Go.ChangeShapes Go.WideShapes Go.ChangeAt
set_option linter.unusedVariables false
theorem zqzg (z:Nat) (e:Int):nearW z e ≤ 9218868437227405312:=by
 unfold nearW
 by_cases h1:z = 0 ∨ e + bitsZ z < -1074
 ·rw [if_pos h1]; omega
 ·rw [if_neg h1]
  by_cases h2:1024 < e + bitsZ z
  ·rw [if_pos h2]; omega
  ·rw [if_neg h2];obtain ⟨f1,f2,f3,-,-⟩:=zqgz (z:=z) (L:=bitsZ z) (e:=e) (zqd2 (fun h => h1 (.inl h))) (by omega) (by omega)
   rcases zqml f1 f2 f3 with ⟨q1,q2⟩ | ⟨q1,d,p,k1,k2,k3,k4⟩ | ⟨q1,q2,q3⟩
   ·rw [q2]; omega
   ·rw [k4]; have:=zqbp k2 k3; exact Nat.le_of_lt this
   ·rw [q3]; omega
end Go.Proofs.YtpgchfihedcdkaaGreatDoor
