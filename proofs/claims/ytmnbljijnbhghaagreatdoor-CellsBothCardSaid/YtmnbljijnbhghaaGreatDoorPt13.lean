/- Contracts that the law leans on: Numw Numx Meet Ofr Flor Roob Longf Ratq Refs Refv Awake4 Ratz. -/
import Derived.Deep.RegionWith
import Derived.Deep.RegionHeld3
import Derived.Deep.RegionLaw
import Derived.Deep.LoopGhost
import Derived.Outline
import Derived.Deep.QuietTactic
import Derived.BigQuiet
import Derived.Deep.DeepCutAuto
import Derived.Deep.CutBlock
import Derived.Test.YtmnbljijnbhghaaGreatDoorPt02
import Derived.Test.YtmnbljijnbhghaaGreatDoorPt11
import Derived.Test.YtmnbljijnbhghaaGreatDoorPt12
namespace Go.Proofs.YtmnbljijnbhghaaGreatDoor
set_option maxRecDepth 100000
open Go.RowKit
set_option linter.unusedVariables false
theorem zqod {w w':World} (h:Below w.drew.heap.size w.drew w'):Below w.heap.size w w':=(Below.refl _ _).drew.trans h
def NumBox (w:World) (N:Nat) (z:Int) (wr:World):Prop :=
 (∃ x y,wr.cell? ⟨N,0,none⟩ = some x ∧ wr.cell? ⟨N,1,none⟩ = some y ∧ IsNum wr (.agg #[x,y]) z) ∧ Kept w N 115 wr
theorem zqjv {w w1:World} {N:Nat} {T:TypeId} (h:Kept w N T w1) (u v:Value) :
  ((w1.setCell ⟨N,0,none⟩ u).setCell ⟨N,1,none⟩ v).cell? ⟨N,0,none⟩ = some u ∧ ((w1.setCell ⟨N,0,none⟩ u).setCell ⟨N,1,none⟩ v).cell? ⟨N,1,none⟩ = some v:=by
 obtain ⟨h1,h2,x,y,h3⟩:=h;have h4:=zqkk (u:=u) (v:=v) h3;exact ⟨by simp [World.cell?,h4],by simp [World.cell?,h4]⟩
theorem zqsd {w w2:World} {N:Nat} {u s:Value} {z:Int} (hk:Kept w N 115 w2) (hq:IsNum w2 (.agg #[u,s]) z):NumBox w N z ((w2.setCell ⟨N,0,none⟩ u).setCell ⟨N,1,none⟩ s) :=
 ⟨⟨u,s,(zqjv hk u s).1,(zqjv hk u s).2,hk.num hq⟩,hk.store u s⟩
theorem Kept.far {w w1:World} {R N:Nat} {T:TypeId} (h:Kept w R T w1) (hne:R ≠ N) (hN:w.heap.size ≤ N) (u v:Value):Kept w R T ((w1.setCell ⟨N,0,none⟩ u).setCell ⟨N,1,none⟩ v):=by
 obtain ⟨h1,h2,x,y,h3⟩:=h;refine ⟨(h1.setCell hN u).setCell hN v,h2,x,y,?_⟩;rw [Below.heap_setCell _ _ _ _ hne,Below.heap_setCell _ _ _ _ hne]; exact h3
theorem NumBox.call {w w1 w2:World} {N:Nat} {z:Int} (h:NumBox w N z w1) (hb:Below w1.heap.size w1 w2):NumBox w N z w2:=by
 obtain ⟨⟨x,y,h1,h2,h3⟩,h4⟩:=h;exact ⟨⟨x,y,cell_later hb h1,cell_later hb h2,h3.below hb⟩,h4.call hb⟩
theorem NumBox.cells {w w1:World} {N:Nat} {z:Int} (h:NumBox w N z w1):∃ nb np nl nc,w1.cell? ⟨N,0,none⟩ = some (.bool nb) ∧ w1.cell? ⟨N,1,none⟩ = some (.slice np nl nc) ∧ IsNum w1 (.agg #[.bool nb,.slice np nl nc]) z:=by
 obtain ⟨⟨x,y,h1,h2,h3⟩,h4⟩:=h;obtain ⟨nb,np,nl,nc,e⟩:=h3.shape;simp only [Value.agg.injEq,Array.mk.injEq,List.cons.injEq,and_true] at e;obtain ⟨rfl,rfl⟩:=e;exact ⟨nb,np,nl,nc,h1,h2,h3⟩
theorem zqqv {w:World}:IsNum w (.agg #[.bool false,.slice none 0 0]) 0:=⟨false,_,[],rfl,⟨none,0,rfl,by simp,.inl rfl⟩,Typed.none,Dig.nil,.inl rfl,(fun e => by cases e),rfl⟩
theorem zqy4 (n:Nat):(4294967296:Int) ^ n ≤ 1000 ^ (4 * n):=by
 have:(4294967296:Nat) ^ n ≤ (1000 ^ 4) ^ n:=Nat.pow_le_pow_left (by decide) n
 rw [← Nat.pow_mul] at this;have e1:((4294967296 ^ n:Nat):Int) = (4294967296:Int) ^ n:=by simp
 have e2:((1000 ^ (4 * n):Nat):Int) = (1000:Int) ^ (4 * n):=by simp
 omega
theorem zqe7 {z:Int} {n:Nat} (h0:0 ≤ z) (h1:z < 4294967296 ^ n):Sized (4 * n) z:=by
 have:=zqy4 n;have:=p_pos (4 * n);unfold Sized;omega
theorem zqjz {x:Int} (h0:0 ≤ x) (h1:x ≤ 4294967296) (n:Nat):Sized (4 * n + 4) x:=by
 have h2:=zqfe (m:=4) (n:=4 * n + 4) (by omega)
 have e:(1000:Int) ^ 4 = 1000000000000:=by decide
 unfold Sized;omega
theorem zqv4 {a:List Int} {n:Nat} (hn:n < a.length) (x:Int) (hx:a.getD n 0 = x):wv (a.drop n) = wv (a.drop (n + 1)) * 4294967296 + x:=by
 have:=zqha (a:=a.drop n) (by rw [List.length_drop]; omega)
 have e:(a.drop n).getD 0 0 = x:=by rw [← hx]; simp [List.getD]
 rw [this,e,List.drop_drop]; omega
theorem zqpe {a:List Int} (hd:Wd a) (n:Nat):0 ≤ wv (a.drop n) ∧ wv (a.drop n) < 4294967296 ^ a.length:=by
 have h1:=zqas (hd.drop n);have h2:=zqgp (m:=(a.drop n).length) (n:=a.length) (by rw [List.length_drop]; omega)
 omega
set_option maxHeartbeats 2000000 in
theorem zqgk (v:Value) (a:List Int) (w:World) (hv:WList w v a) (la:a.length ≤ 1000000) :
  Calls Tryz.prog 78 #[v] w (MadeNum w (wv a)):=by
 have HV:=zh hv;obtain ⟨p,c,rfl⟩:=hv.shape;clear hv;have HR0:=zh (And.intro ((Kept.start w (.bool false) (.slice none 0 0) 115).call (zqab _ (.cells #[.bool false,.slice none 0 0] 115)))
  (And.intro (⟨_,_,by simp [go_sem],by simp [go_sem],zqqv⟩:∃ x y,((w.alloc (.cells #[.bool false,.slice none 0 0] 115)).alloc (.cells #[.bool false,.slice none 0 0] 115)).cell? ⟨w.heap.size + 1,0,none⟩ = some x ∧ ((w.alloc (.cells #[.bool false,.slice none 0 0] 115)).alloc (.cells #[.bool false,.slice none 0 0] 115)).cell? ⟨w.heap.size + 1,1,none⟩ = some y ∧ IsNum ((w.alloc (.cells #[.bool false,.slice none 0 0] 115)).alloc (.cells #[.bool false,.slice none 0 0] 115)) (.agg #[x,y]) 0)
   (by have:=Kept.start (w.alloc (.cells #[.bool false,.slice none 0 0] 115)) (.bool false) (.slice none 0 0) 115; simp only [World.size_alloc] at this; exact this.down (zqab w _))))
 go_enter Tryz.func78,Tryz.ntmps78;go_wp2_with fail;go_loopw [4] (fun i wr => ∃ (m:Nat) (z:Int),Hid (z = (m:Int) - 1) ∧ -1 ≤ z ∧ z ≤ 1000000 ∧ m ≤ a.length ∧ i = .int .i64 z ∧ Hid (Kept w w.heap.size 115 wr ∧ NumBox w (w.heap.size + 1) (wv (a.drop m)) wr)) (fun i _ => (intOf i + 1).toNat)
 case atStart => exact ⟨a.length,_,zh rfl,by omega,by omega,Nat.le_refl _,rfl,zh ⟨HR0.out.1,by rw [List.drop_length]; exact HR0.out.2.1,HR0.out.2.2⟩⟩
 case round =>
  obtain ⟨m,z,hz,hz1,hz2,hm,rfl,hS⟩:=hrel;clear HR0
  by_cases h0:0 ≤ z
  ·obtain ⟨n,rfl⟩:∃ n,m = n + 1:=⟨m - 1,by have:=hz.out; omega⟩
   have hzn:z = (n:Int):=by have:=hz.out; omega
   clear hz;subst hzn;obtain ⟨nb,np,nl,nc,hx,hy,hnum⟩:=hS.out.2.cells;obtain ⟨b1,o1,hp1,hb1,hc⟩:=HV.out.1.cell (i:=n) hm;subst hp1;have hc:=cell_later hS.out.1.1 hc;have hi0:(0:Int) ≤ (n:Int):=by omega
   have hi1:(n:Int) < (a.length:Int):=by omega
   have dx:=HV.out.2.1.getD n;have hdv:=zh (fun (x:Int) (hx:a.getD n 0 = x) => zqv4 hm x hx)
   have hr1:=zqpe HV.out.2.1 n;have hr2:=zqpe HV.out.2.1 (n + 1);generalize a.getD n 0 = x at *;have hdv2:=zh (hdv.out x rfl);clear hdv;have e6:IntKind.u64.wrap x = x:=by rw [IntKind.wrap_u64]; omega
   have HRg:=zh (And.intro hr1 hr2);generalize wv (a.drop (n + 1)) = H at *;have HN:=zh hnum;have HM:=zh (fun w1 q (hb:Below wr.heap.size wr w1) (hq:IsNum w1 q 4294967296) => zqpn _ q H 4294967296 (4 * a.length + 4) w1 (HN.out.below hb) hq ((zqe7 HRg.out.2.1 HRg.out.2.2).mono (by omega)) (zqjz (by decide) (by decide) _) (by omega))
   have HA:=zh (fun w1 q y (hq:IsNum w1 q (H * 4294967296)) (hy:IsNum w1 y x) => zqc3 q y (H * 4294967296) x (4 * a.length + 4) w1 hq hy ((zqe7 (n:=a.length) (by have:=HRg.out.2.1; omega) (by have:=hdv2.out; have:=HRg.out.1.2; omega)).mono (by omega)) (zqjz dx.1 (by omega) _) (by omega))
   obtain ⟨x0,x1⟩:=dx;clear hnum hr1 hr2 hb1;go_wp2_with fail;go_region_with (first
    | (go_at_call_of 134 (4294967296:Int); refine (zqch 4294967296 _ (by decide) (by decide)).mono ?_; rintro e w1 ⟨q,rfl,hq,hb1⟩; replace hb1:=zqod hb1; have hx1:=cell_later hb1 hx; have hy1:=cell_later hb1 hy; have hc1:=cell_later hb1 hc)
    | (go_at_call 102; refine (HM.out _ _ hb1 hq).mono ?_; rintro e w2 ⟨mm,rfl,hmm,hb2⟩; have hc2:=cell_later hb2 hc1)
    | (go_at_call 134; refine (zqch x _ x0 (by omega)).mono ?_; rintro e w3 ⟨y,rfl,hyy,hb3⟩)
    | (go_at_call 77; refine (HA.out _ _ _ (hmm.below hb3) hyy).mono ?_; rintro e w4 ⟨r,rfl,hr,hb4⟩; have hb14:=hb1.trans ((hb2.trans ((hb3.trans (hb4.mono hb3.size)).mono hb2.size)).mono hb1.size); have hk4:=hS.out.2.2.call hb14; have hR4:=hS.out.1.call hb14; obtain ⟨rn,rp,rl,rc,rfl⟩:=hr.shape; obtain ⟨⟨x2,hx2⟩,⟨y2,hy2⟩,hf1,hf2⟩:=hk4.cells))
   all_goals
    have hB:=zh (zqsd hk4 hr);have hR5:=zh (hR4.far (N:=w.heap.size + 1) (by omega) (by omega) (.bool rn) (.slice rp rl rc))
    rw [← hdv2.out] at hB;clear hk4 hR4 hr hb14 hb1 hb2 hb3 hb4 hq hmm hyy hx1 hy1 hc1 hc2 hx2 hy2 hf1 hf2 hx hy hc HM HA HN hS HRg;go_wp2_with fail;go_roundw
    case rel => exact ⟨n,_,zh rfl,by omega,by omega,by omega,by go_num,zh ⟨hR5.out,hB.out⟩⟩
    case measure => simp [intOf]
  ·obtain rfl:m = 0:=by have:=hz.out; omega
   obtain ⟨nb,np,nl,nc,hx,hy,hnum⟩:=hS.out.2.cells;rw [List.drop_zero] at hnum;have hk:=hS.out.1;obtain ⟨⟨x1,hx1⟩,⟨y1,hy1⟩,hf1,hf2⟩:=hk.cells;have hN:=zh (hk.num hnum);have hE:=zh ((hk.store (.bool nb) (.slice np nl nc)).1);clear hS hnum hk;go_wp2_with fail;exact bodyPost_ret (v:=.agg #[.bool nb,.slice np nl nc]) (by simp [results,Tryz.results78,go_sem,hx1,hy1]) rfl ⟨_,rfl,hN.out,hE.out⟩
set_option maxHeartbeats 1000000 in
theorem zqpw (n:Int) (N:Nat) (hn:Hid (n = (N:Int))) (w:World) (hN:N ≤ 1000000):Calls Tryz.prog 136 #[.int .i64 n] w (MadeNum w (2 ^ N)):=by
 have hk0:=zh (Kept.start w (.bool false) (.slice none 0 0) 115);go_enter Tryz.func136,Tryz.ntmps136;go_wp2_with fail;refine (zqch 2 _ (by decide) (by decide)).mono ?_; rintro e w1 ⟨q,rfl,hq,hb1⟩
 have HP:=zh (zqtw 8 N q 2 n N w1 (Nat.le_refl _) hn (by omega) (by omega) hq (sized8 (by decide) (by decide)))
 have HK:=zh (hk0.out.call hb1);clear hk0 hb1 hq;go_wp2_with fail;refine (HP.out).mono ?_; rintro e w2 ⟨r,rfl,hr,hb2⟩;have hk:=HK.out.call hb2;obtain ⟨rn,rp,rl,rc,rfl⟩:=hr.shape;obtain ⟨⟨x1,hx1⟩,⟨y1,hy1⟩,hf1,hf2⟩:=hk.cells;have hN2:=hk.num hr;have hE:=(hk.store (.bool rn) (.slice rp rl rc)).1;clear hk hr hb2 HK HP;go_wp2_with fail;exact bodyPost_ret (v:=.agg #[.bool rn,.slice rp rl rc]) (by simp [results,Tryz.results136,go_sem,hx1,hy1]) rfl ⟨_,rfl,hN2,hE⟩
theorem zqaw {W w2:World} (hb:Below W.drew.heap.size W.drew w2):Below W.heap.size W w2:=(Below.refl _ _).drew.trans hb
theorem zquw {w w1:World} {N:Nat} {T:TypeId} (h:Kept w N T w1) (u v:Value) :
  ((w1.setCell ⟨N,0,none⟩ u).setCell ⟨N,1,none⟩ v).cell? ⟨N,0,none⟩ = some u ∧ ((w1.setCell ⟨N,0,none⟩ u).setCell ⟨N,1,none⟩ v).cell? ⟨N,1,none⟩ = some v:=by
 obtain ⟨h1,h2,x,y,h3⟩:=h;have h4:=zqkk (u:=u) (v:=v) h3;exact ⟨by simp [World.cell?,h4],by simp [World.cell?,h4]⟩
def IRow (w:World) (B g cap:Nat) (a:List Int):Prop:=w.ownsRow B 3 1 (.slice (some ⟨g,0,none⟩) a.length cap) a.length (a.map (Value.int .i64))
theorem IRow.facts {w:World} {B g cap:Nat} {a:List Int} (h:IRow w B g cap a):B ≤ g ∧ g < w.heap.size ∧ a.length ≤ cap ∧ cap ≤ maxLen ∧ ∀ j,j < a.length → w.cell? ⟨g,j,none⟩ = some (.int .i64 (a.getD j 0)) ∧ w.frozen? ⟨g,j,none⟩ = false:=by
 have h0:=h;obtain ⟨hl,hh⟩:=h;have h1:=World.ownsRow.lt h0 g rfl;refine ⟨h1.1,h1.2,?_,?_,fun j hj => ⟨?_,World.ownsRow.frozenAt h0 j⟩⟩
 ·rcases hh with ⟨e,_⟩ | ⟨g',cap',cur,e,_,_,hc,_⟩
  ·simp at e
  ·simp at e; omega
 ·rcases hh with ⟨e,_⟩ | ⟨g',cap',cur,e,_,_,_,hc,_⟩
  ·simp at e
  ·simp at e; omega
 ·rw [World.ownsRow.cellAt h0 j (by omega)]
  simp [List.getD,hj]
theorem IRow.set {w:World} {B g cap:Nat} {a:List Int} (h:IRow w B g cap a) (j:Nat) (x:Int):IRow (w.setCell ⟨g,j,none⟩ (.int .i64 x)) B g cap (a.set j x):=by
 have:=(World.ownsRow.stored h j (.int .i64 x)).1;simpa [IRow,List.map_set] using this
theorem IRow.cut {w:World} {B g cap n:Nat} {a:List Int} (h:IRow w B g cap a) (hn:n ≤ a.length):IRow w B g cap (a.take n):=by
 have hl:(a.take n).length = n:=by rw [List.length_take]; omega
 obtain ⟨k1,k2⟩:=h;refine ⟨by simp,?_⟩
 rcases k2 with ⟨e,_⟩ | ⟨g',cap',cur,e,q1,q2,q3,q4,q5,q6⟩
 ·simp at e
 ·refine .inr ⟨g',cap',cur,by simp at e ⊢; exact ⟨e.1,e.2⟩,q1,q2,by omega,q4,q5,?_⟩
  have:=congrArg (List.take n) q6;rw [List.take_take] at this;rw [hl,show n * 1 = min n (a.length * 1) from by omega,this,List.map_take]
theorem iother {w:World} {B:Nat} {rv dv:Value} {n m:Nat} {xs ys:List Value} (hr:w.ownsRow B 3 1 rv n xs) (hd:w.ownsRow B 27 1 dv m ys):rv.ownBlock = none ∨ rv.ownBlock ≠ dv.ownBlock:=by
 rcases hr.2 with ⟨rfl,_⟩ | ⟨g,cap,cur,rfl,_,h1,_⟩
 ·exact .inl rfl
 ·rcases hd.2 with ⟨rfl,_⟩ | ⟨g',cap',cur',rfl,_,h2,_⟩
  ·exact .inr (by simp [Value.ownBlock])
  ·refine .inr (fun e => ?_)
   simp only [Value.ownBlock,Option.some.injEq] at e;subst e;rw [h1] at h2;simp only [Option.some.injEq,Obj.cells.injEq] at h2;exact absurd h2.2.1 (by decide)
theorem iother' {w:World} {B:Nat} {rv dv:Value} {n m:Nat} {xs ys:List Value} (hr:w.ownsRow B 3 1 rv n xs) (hd:w.ownsRow B 27 1 dv m ys):dv.ownBlock ≠ rv.ownBlock ∨ rv.ownBlock = none:=by
 rcases iother hr hd with h | h
 ·exact .inr h
 ·exact .inl (fun e => h e.symm)
def OfSt (w:World) (z:Int) (g cap:Nat) (ds out:List Int) (ov:Value) (wr:World):Prop :=
 IRow wr w.heap.size g cap ds ∧ wr.ownsRow w.heap.size 27 1 ov out.length (out.map (Value.int .u32)) ∧ OfRel z out ds ∧ Below w.heap.size w wr
def OfMid (w:World) (z:Int) (g cap:Nat) (ds o out:List Int) (m:Nat) (r:Int) (ov:Value) (wr:World):Prop :=
 IRow wr w.heap.size g cap o ∧ DDivRel ds m o r ∧ wr.ownsRow w.heap.size 27 1 ov out.length (out.map (Value.int .u32)) ∧ Below w.heap.size w wr
theorem OfMid.next {w wr:World} {z:Int} {g cap m:Nat} {ds o out:List Int} {r:Int} {ov:Value} (h:OfMid w z g cap ds o out (m + 1) r ov wr) (hm:m < ds.length) (y:Int) (hy:o.getD m 0 = y) :
  OfMid w z g cap ds (o.set m ((r * 1000 + y) / 4294967296)) out m ((r * 1000 + y) % 4294967296) ov (wr.setCell ⟨g,m,none⟩ (.int .i64 ((r * 1000 + y) / 4294967296))):=by
 obtain ⟨h1,h2,h3,h4⟩:=h;refine ⟨h1.set m _,h2.step hm y hy,?_,h4.setCell h1.facts.1 _⟩;have honly:=(Only.refl g wr).set m (.int .i64 ((r * 1000 + y) / 4294967296));refine honly.row h3 ?_;rcases iother' h1 h3 with e | e
 ·simpa [Value.ownBlock] using e
 ·simp [Value.ownBlock] at e
theorem OfMid.push {w wr w1:World} {z:Int} {g cap:Nat} {ds o out:List Int} {r:Int} {ov ov':Value} {ob:Obj} (h:OfMid w z g cap ds o out 0 r ov wr)
  (hown:w1.ownsRow w.heap.size 27 1 ov' (out.length + 1) (out.map (Value.int .u32) ++ [.int .u32 r])) (hg:(wr.alloc ob).grownBy w1 ov.ownBlock) :
  IRow w1 w.heap.size g cap o ∧ w1.ownsRow w.heap.size 27 1 ov' (out ++ [r]).length ((out ++ [r]).map (Value.int .u32)) ∧ Below w.heap.size w w1:=by
 obtain ⟨h1,h2,h3,h4⟩:=h;refine ⟨World.ownsRow.kept (World.ownsRow.alloc h1 ob) hg (iother h1 h3),by simpa using hown,?_⟩
 refine (h4.alloc h4.size ob).grown hg ?_ ?_
 ·have:=h4.size; simp; omega
 ·intro k hk; exact (h3.lt k hk).1
theorem zqv0 {a:List Int} (h:Dig a) (n:Nat):Dig (a.take n):=fun x hx => h x (List.mem_of_mem_take hx)
theorem zqmc {a:List Int} {n:Nat} (hn:n < a.length) (h0:a.getD n 0 = 0):val (a.take n) = val (a.take (n + 1)):=by
 have e1:(a.take n).length = n:=by rw [List.length_take]; omega
 have e2:(a.take (n + 1)).length = n + 1:=by rw [List.length_take]; omega
 have e3:valN (a.take (n + 1)) n = valN (a.take n) n:=zqj5 (fun i hi => by rw [getD_take (by omega),getD_take hi])
 rw [val,val,e1,e2,valN,e3,getD_take (by omega),h0]; simp
def sliceLen:Value → Nat
 | .slice _ l _ => l
 | _ => 0
theorem OfMid.bounds {w wr:World} {z:Int} {g cap m:Nat} {ds o out:List Int} {r:Int} {ov:Value} (h:OfMid w z g cap ds o out m r ov wr):0 ≤ r ∧ r < 4294967296 ∧ o.length = ds.length ∧ Dig o:=by
 obtain ⟨h1,⟨X,Y,q1,q2,q3,q4,q5,q6,q7,q8⟩,h3,h4⟩:=h;exact ⟨q4,q5,q7,q6⟩
theorem zqyy {z:Int} {out ds o:List Int} {n:Nat} (h:OfRel z out ds) (hne:ds ≠ []) (ho:val o = val ds / 4294967296) (hl:o.length = ds.length) (hd:Dig o) (hn:n ≤ o.length) (hv:val (o.take n) = val o) (ht:n = 0 ∨ o.getD (n - 1) 0 ≠ 0) :
  OfRel z (out ++ [val ds % 4294967296]) (o.take n) ∧ (o.take n).length < ds.length:=by
 have hlt:(o.take n).length = n:=by rw [List.length_take]; omega
 have hT:Tidy (o.take n):=by
  rcases ht with h0 | h0
  ·subst h0; exact .inl (by simp)
  ·by_cases hz:n = 0
   ·subst hz; exact .inl (by simp)
   ·refine .inr ?_;rw [hlt,getD_take (by omega)]; exact h0
 have hD:=zqv0 hd n;refine ⟨h.next hne (hv.trans ho) hD hT,?_⟩;have h1:=h.2.2.1;have hpos:0 < ds.length:=List.length_pos_iff.2 hne;have hr:=zqa7 h1;have e:(1000:Int) ^ ds.length = 1000 ^ (ds.length - 1) * 1000:=by
  rw [← zqbs]; congr 1; omega
 have hlt2:val (o.take n) < 1000 ^ (ds.length - 1):=by
  rw [hv,ho];have:=hr.2;rw [e] at this;omega
 have:=hT.len hD hlt2;omega
set_option maxHeartbeats 4000000 in
theorem zqpq (v:Value) (z:Int) (w:World) (hv:IsNum w v z) (h0:0 ≤ z) (hs:Sized 1000 z) :
  Calls Tryz.prog 79 #[v] w (Fresh w z 1000):=by
 obtain ⟨i0,hi0,hz0,hz1,hz2⟩:=info_parts Tryz.infoInt;obtain ⟨j0,hj0,hy0,hy1,hy2⟩:=info_parts Tryz.infoU32;obtain ⟨nb,s,ds,rfl,hi,ht,hd,hty,hn,hz⟩:=hv;obtain ⟨np,nc,rfl,hlc,hcell⟩:=id hi;have hB:=zqab w (.cells #[.bool nb,.slice np ds.length nc] 115);have HI:=zh (hi.below hB);have HB:=zh hB;have hx:(w.alloc (.cells #[.bool nb,.slice np ds.length nc] 115)).cell? ⟨w.heap.size,1,none⟩ = some (.slice np ds.length nc):=by simp [go_sem]
 have hll:ds.length ≤ 1000:=zqa1 hd hty (by rw [← hz]; exact hs)
 have hval:Hid (z = val ds):=zh (by
  cases nb
  ·rw [hz]; rfl
  ·have h1:=hn rfl;have h2:val ds ≠ 0:=fun e => h1 ((hty.zero hd).1 e)
   have h3:=(zqa7 hd).1;simp [signed] at hz; omega)
 have HD:=zh (And.intro hd hty);have hsz1:w.heap.size ≤ (w.alloc (.cells #[.bool nb,.slice np ds.length nc] 115)).heap.size:=by simp
 clear hi hB hcell ht hn hz hs hd hty;go_enter Tryz.func79,Tryz.ntmps79;go_upto_region 1 with fail;generalize w.alloc (.cells #[.bool nb,.slice np ds.length nc] 115) = W at *;have hx2:=cell_later (zqab W (.cells #[] 3)) hx;go_wp2_with (at_builtin; refine zqdi _ rfl _ _ 69 rfl w.heap.size 3 i0 (.int .i64 0) 8 Tryz.underlying69 hi0 hz0 hz1 hz2 rfl .i64 _ _ [] ds rfl rfl (World.ownsRow_lit W #[] 0 hsz1 (by unfold maxLen; omega) rfl) (HI.out.below (zqab W _)) (by unfold maxLen; simp; omega) (by simp; omega) (by simp; omega) ?_; intro v1 w1 hown hgrow)
 have hb1:Below w.heap.size w w1:=(HB.out.alloc hsz1 _).grown hgrow (by simp; omega) (fun k hk => by have e:W.heap.size = k:=Option.some.inj hk; omega)
 rw [List.nil_append] at hown;have HE1:=zh hb1;have HO1:=zh hown;clear hown hgrow hb1 hx2 hx HI HB
 by_cases hnil:ds = []
 ·subst hnil;obtain ⟨p1,c1,rfl⟩:=zqbr HO1.out;have hz3:Hid (z = 0):=zh (by have:=hval.out; rwa [zqdy] at this)
  clear HO1 hval;go_wp2_with fail;go_loop [3,4] (fun dv ov => dv = .slice p1 0 c1 ∧ ov = .slice none 0 0) (fun _ _ => 0)
  case atStart => exact ⟨rfl,rfl⟩
  case round =>
   obtain ⟨rfl,rfl⟩:=hrel;go_wp2_with fail;go_ret;exact ⟨_,[],rfl,World.ownsRow_nil _ _ _ _,Wd.nil,.inl rfl,by rw [hz3.out]; rfl,Nat.zero_le _,HE1.out⟩
 ·obtain ⟨g,cap,rfl,hrow⟩:∃ g cap,v1 = .slice (some ⟨g,0,none⟩) ds.length cap ∧ IRow w1 w.heap.size g cap ds:=by
   have ho:=HO1.out;rcases ho.2 with ⟨rfl,h0⟩ | ⟨g,cap,cur,rfl,_⟩
   ·exact absurd (List.length_eq_zero_iff.1 h0) hnil
   ·exact ⟨g,cap,rfl,ho⟩
  have hcap:cap ≤ 9223372036854775807:=by have:=hrow.facts.2.2.2.1; unfold maxLen at this; omega
  have hg:=hrow.facts.1;have HS0:Hid (OfSt w z g cap ds [] (.slice none 0 0) w1):=zh ⟨hrow,World.ownsRow_nil _ _ _ _,OfRel.start hval.out HD.out.1 HD.out.2,HE1.out⟩;clear HO1 HE1 hrow hval HD hnil;go_wp2_with fail;go_loopw [3,4] (fun dv ov wr => ∃ (ds' out:List Int) (o:Value),dv = .slice (some ⟨g,0,none⟩) ds'.length cap ∧ o = ov ∧ out.length + ds'.length ≤ 1000 ∧ Hid (OfSt w z g cap ds' out o wr)) (fun dv _ _ => sliceLen dv)
  case atStart => exact ⟨ds,[],_,rfl,rfl,by simpa using hll,HS0⟩
  case round =>
   clear HS0;obtain ⟨ds',out,ov,rfl,rfl,hlen,hS⟩:=hrel;obtain ⟨op,oc,rfl⟩:=zqbr hS.out.2.1;have hdc:=hS.out.1.facts.2.2.1
   by_cases hpos:0 < ds'.length
   ·have hne:ds' ≠ []:=List.length_pos_iff.1 hpos;have hp1:(0:Int) < (ds'.length:Int):=by omega
    have HM0:Hid (OfMid w z g cap ds' ds' out ds'.length 0 (.slice op out.length oc) wr):=zh ⟨hS.out.1,DDivRel.start hS.out.2.2.1.2.2.1,hS.out.2.1,hS.out.2.2.2⟩;have HRel:=zh hS.out.2.2.1;have hne:=zh hne;obtain ⟨L,hL⟩:∃ L,ds'.length = L:=⟨_,rfl⟩
    have HL:=zh hL;rw [hL] at HM0 hlen hdc hpos hp1 ⊢;clear hL hS;go_wp2_with fail;go_loopw [5,6] (fun l i wr => ∃ (m:Nat) (iv r:Int) (o:List Int),Hid (iv = (m:Int) - 1) ∧ -1 ≤ iv ∧ iv ≤ 1000 ∧ m ≤ L ∧ i = .int .i64 iv ∧ l = .int .i64 r ∧ Hid (OfMid w z g cap ds' o out m r (.slice op out.length oc) wr)) (fun _ i _ => (intOf i + 1).toNat)
    case atStart => exact ⟨L,_,0,ds',zh rfl,by omega,by omega,Nat.le_refl _,rfl,rfl,HM0⟩
    case round =>
     clear HM0;obtain ⟨m,iv,r,o,hiv,v0,v1,hm,rfl,rfl,hM⟩:=hrel;obtain ⟨r0,r1,hol,hdo⟩:=hM.out.bounds
     by_cases hi0':0 ≤ iv
     ·obtain ⟨n,rfl⟩:∃ n,m = n + 1:=⟨m - 1,by have:=hiv.out; omega⟩
      have hn:iv = (n:Int):=by have:=hiv.out; omega
      subst hn;have hol2:=zh hol;obtain ⟨hc1,hc2⟩:=hM.out.1.facts.2.2.2.2 n (by have:=HL.out; omega)
      have hyb:=hdo.getD n;have hnx:=zh (fun (y:Int) (hy:o.getD n 0 = y) => hM.out.next (by have:=HL.out; omega) y hy)
      generalize o.getD n 0 = y at *;have hN:=zh (hnx.out y rfl);obtain ⟨y0,y1⟩:=hyb;have hq0:0 ≤ r * 1000 + y:=by omega
      have hn1:(n:Int) < (L:Int):=by omega
      clear hnx hM hol hdo hiv;go_wp2_with fail;go_roundw
      case rel => exact ⟨n,(n:Int) - 1,_,_,zh rfl,by omega,by omega,by omega,rfl,rfl,hN⟩
      case measure => simp [intOf]
     ·obtain rfl:m = 0:=by have:=hiv.out; omega
      obtain ⟨s1,s2,s3,s4⟩:=hM.out.2.1.stop;have HQ:=zh (And.intro s1 (And.intro s2 (And.intro s3 s4)));have hsz:=hM.out.2.2.2.size;have hown:=zh hM.out.2.2.1;have hr32:r ≤ 4294967295:=by omega
      have hneg:iv < 0:=by omega
      have hpush:=zh (fun (w1:World) (ov':Value) (ob:Obj) h1 h2 => OfMid.push (w1:=w1) (ov':=ov') (ob:=ob) hM.out h1 h2)
      clear hM hol hdo hiv s1 s2 s3 s4 hi0' v0 v1;go_wp2_with (at_builtin; refine wpList_append_own _ rfl _ _ 24 rfl w.heap.size 27 j0 (.int .u32 0) 1 4 Tryz.underlying24 hj0 hy0 hy1 hy2 rfl (by decide) _ _ _ rfl (hown.out.alloc _) ⟨wr.heap.size,0,none⟩ 1 1 [.int .u32 r] rfl rfl (cell_one_new _ _ _) (zqdx _ _) (room63 (by omega)) (room47w (by omega)) (by simp; omega) ?_; intro v3 w3 hown' hgrow _)
      obtain ⟨p1,p2,p3⟩:=hpush.out w3 v3 _ hown' hgrow;have HP:=zh (And.intro p1 (And.intro p2 p3));obtain ⟨p4,c4,rfl⟩:=zqbr p2;clear p1 p2 p3 hown' hgrow hpush hown hsz;go_wp2_with fail;go_loop [3] (fun dv => ∃ n:Nat,n ≤ L ∧ dv = .slice (some ⟨g,0,none⟩) n cap ∧ Hid (val (o.take n) = val o)) (fun dv => sliceLen dv)
      case atStart => exact ⟨L,Nat.le_refl _,rfl,zh (by rw [List.take_of_length_le (by have:=HQ.out.2.2.2; have:=HL.out; omega)])⟩
      case round =>
       obtain ⟨n,hn,rfl,hv⟩:=hrel;have hfin:(n = 0 ∨ o.getD (n - 1) 0 ≠ 0) → Hid (OfSt w z g cap (o.take n) (out ++ [r]) (.slice p4 (out ++ [r]).length c4) w3 ∧ (o.take n).length = n ∧ n < L):=fun ht => zh (by
        have hol:=HQ.out.2.2.2;have:=zqyy HRel.out hne.out HQ.out.1 hol HQ.out.2.2.1 (by have:=HL.out; omega) hv.out ht
        rw [← HQ.out.2.1] at this;have hln:(o.take n).length = n:=by rw [List.length_take]; have:=HL.out; omega
        exact ⟨⟨HP.out.1.cut (by have:=HL.out; omega),HP.out.2.1,this.1,HP.out.2.2⟩,hln,by have:=HL.out; omega⟩)
       by_cases hn0:n = 0
       ·subst hn0;have HF:=hfin (.inl rfl);clear hfin hv;go_wp2_with fail;go_roundw
        case rel => exact ⟨o.take 0,out ++ [r],_,by rw [HF.out.2.1],rfl,by have:=HF.out.2.2; rw [HF.out.2.1]; simp; omega,zh HF.out.1⟩
        case measure => have:=HF.out.2.2; simp [sliceLen]; omega
       ·obtain ⟨k,rfl⟩:∃ k,n = k + 1:=⟨n - 1,by omega⟩
        obtain ⟨hc1,hc2⟩:=HP.out.1.facts.2.2.2.2 k (by have:=HQ.out.2.2.2; have:=HL.out; omega)
        have hp2:(0:Int) < ((k + 1:Nat):Int):=by omega
        by_cases hlast:o.getD k 0 = 0
        ·rw [hlast] at hc1;have hv2:=zh ((zqmc (by have:=HQ.out.2.2.2; have:=HL.out; omega) hlast).trans hv.out)
         clear hfin hv hlast hn0;go_wp2_with fail;go_round
         case rel => exact ⟨k,by omega,rfl,hv2⟩
         case measure => simp [sliceLen]
        ·have HF:=hfin (.inr hlast);have hl2:(o.getD k 0 == 0) = false:=by simpa using hlast
         generalize o.getD k 0 = y at *;clear hfin hv hlast hn0;go_wp2_with fail;go_roundw
         case rel => exact ⟨o.take (k + 1),out ++ [r],_,by rw [HF.out.2.1],rfl,by have:=HF.out.2.2; rw [HF.out.2.1]; simp; omega,zh HF.out.1⟩
         case measure => have:=HF.out.2.2; simp [sliceLen]; omega
   ·have hd0:ds' = []:=List.length_eq_zero_iff.1 (by omega)
    subst hd0;obtain ⟨q1,q2,q3⟩:=hS.out.2.2.1.stop;have HF:=zh (And.intro hS.out.2.1 (And.intro q2 (And.intro q3 (And.intro q1 (And.intro (show out.length ≤ 1000 by simp at hlen; omega) hS.out.2.2.2)))))
    clear hS q1 q2 q3;go_wp2_with fail;go_ret;exact ⟨_,out,rfl,HF.out.1,HF.out.2.1,HF.out.2.2.1,HF.out.2.2.2.1,HF.out.2.2.2.2.1,HF.out.2.2.2.2.2⟩
theorem zqy9 (v:Value) (z:Int) (w:World) (hv:IsNum w v z) (h0:0 ≤ z) (hs:Sized 1000 z) :
  Calls Tryz.prog 79 #[v] w fun e w' => (∃ u,e = .returned u ∧ IsNat w' u z) ∧ Below w.heap.size w w' :=
 (zqpq v z w hv h0 hs).mono fun e w' h => by
  obtain ⟨u,a,rfl,h1,h2,h3,h4,h5,h6⟩:=h;exact ⟨⟨u,rfl,a,zqa4 h1 h2 (by omega),h3,h4⟩,h6⟩
end Go.Proofs.YtmnbljijnbhghaaGreatDoor
namespace Go.Proofs.YtmnbljijnbhghaaGreatDoor
set_option maxRecDepth 100000
open Go.RowKit
set_option linter.unusedVariables false
set_option maxRecDepth 100000
open Go.RowKit
set_option linter.unusedVariables false
theorem zqgv {N:Nat} (h:N ≤ 15000):Sized 20000 ((2:Int) ^ N):=by
 have h1:(2:Nat) ^ N ≤ 1000 ^ N:=Nat.pow_le_pow_left (by decide) N
 have e1:((2 ^ N:Nat):Int) = (2:Int) ^ N:=by simp
 have e2:((1000 ^ N:Nat):Int) = (1000:Int) ^ N:=by simp
 have h2:=zqbs N;have h3:=zqfe (m:=N + 1) (n:=20000) (by omega)
 have h4:=p_pos N;have h5:=p_pos 20000;have h6:(0:Int) < 2 ^ N:=Int.pow_pos (by decide)
 unfold Sized;omega
theorem zqru {z:Int} {N:Nat} (h0:0 ≤ z) (h1:z ≤ 2 ^ N) (h:N ≤ 15000):Sized 20000 z:=by
 obtain ⟨a,b⟩:=zqgv h;exact ⟨by omega,by omega⟩
theorem zqrd {m n:Nat} (h:(2:Int) ^ m < 2 ^ n):m < n:=by
 by_cases g:m < n
 ·exact g
 ·have:=zqlk (m:=n) (n:=m) (by omega); omega
theorem zqj4 {z:Nat} {N:Nat} (h0:z ≠ 0):(z:Int) < 2 ^ N ↔ bitsZ z ≤ N:=by
 have h1:=zqpa (z:=(z:Int)) (by omega)
 have h2:=zqx6 (z:=(z:Int)) (by omega)
 have h3:=zqsa (z:=(z:Int)) (by omega)
 constructor
 ·intro h;have:=zqrd (Int.lt_of_le_of_lt h2 h);omega
 ·intro h;have:=zqlk h;omega
set_option maxRecDepth 100000
open Go.RowKit
set_option linter.unusedVariables false
theorem zqwy {z L:Nat} {e:Int} (hL:z < 2 ^ L) (h:e + L < -1074):rN z L e = 0:=by
 have h1:rU L e = -1074:=by unfold rU; omega
 unfold rN;rw [h1,if_neg (by omega)]
 obtain ⟨n,hn⟩:∃ n,(-1074 - e).toNat = L + 1 + n:=⟨(-1074 - e).toNat - (L + 1),by omega⟩
 rw [hn];have h2:2 ^ (L + 1) ≤ 2 ^ (L + 1 + n):=Nat.pow_le_pow_right (by decide) (by omega)
 have h3:2 ^ (L + 1) = 2 ^ L * 2:=Nat.pow_succ ..;unfold rndN;rw [Nat.div_eq_of_lt (by omega),Nat.mod_eq_of_lt (by omega),if_neg (by omega)]
set_option maxRecDepth 100000
open Go.RowKit
set_option linter.unusedVariables false
end Go.Proofs.YtmnbljijnbhghaaGreatDoor
namespace Go.Proofs.YtmnbljijnbhghaaGreatDoor
set_option maxRecDepth 100000
open Go.RowKit
set_option linter.unusedVariables false
theorem zqtt {z:Nat} (e:Int) (h0:z ≠ 0):nearW z e = if 971 < (bitsZ z:Int) + e - 53 then 9218868437227405312 else Ieee.double.nearest false (rN z (bitsZ z) e) (rU (bitsZ z) e):=by
 have hlt:=zqhg h0;unfold nearW
 by_cases h1:e + bitsZ z < -1074
 ·rw [if_pos (.inr h1),if_neg (by omega),zqwy hlt h1,zqna]; rfl
 ·rw [if_neg (by omega)]
  by_cases h2:1024 < e + bitsZ z
  ·rw [if_pos h2,if_pos (by omega)]
  ·rw [if_neg h2,if_neg (by omega)]
theorem zqje {N:Nat} (h0:N ≠ 0) (k:Nat):N < 2 ^ k ↔ bitsZ (N:Int) ≤ k:=by
 have:=zqj4 (z:=N) (N:=k) h0;have e:((2 ^ k:Nat):Int) = (2:Int) ^ k:=by simp
 constructor
 ·intro h; exact this.1 (by omega)
 ·intro h; have:=this.2 h; omega
set_option maxRecDepth 100000
open Go.RowKit
set_option linter.unusedVariables false
set_option maxRecDepth 100000
open Go.RowKit
set_option linter.unusedVariables false
theorem zqf7 {M N:Nat} (h0:M ≠ 0) (h:M < 2 ^ N):bitsZ (M:Int) ≤ N:=(zqje h0 N).1 h
end Go.Proofs.YtmnbljijnbhghaaGreatDoor
namespace Go.Proofs.YtmnbljijnbhghaaGreatDoor
set_option maxRecDepth 100000
open Go.RowKit
set_option linter.unusedVariables false
set_option maxRecDepth 100000
open Go.RowKit
set_option linter.unusedVariables false
set_option maxRecDepth 100000
open Go.RowKit
set_option linter.unusedVariables false
set_option maxRecDepth 100000
open Go.RowKit
set_option linter.unusedVariables false
theorem Only.trans {g:Nat} {w w1 w2:World} (h:Only g w w1) (k:Only g w1 w2):Only g w w2 :=
 ⟨k.1.trans h.1,k.2.1.trans h.2.1,k.2.2.1.trans h.2.2.1,k.2.2.2.1.trans h.2.2.2.1,fun j hj => (k.2.2.2.2 j hj).trans (h.2.2.2.2 j hj)⟩
set_option maxRecDepth 100000
open Go.RowKit
set_option linter.unusedVariables false
set_option maxRecDepth 100000
open Go.RowKit
set_option linter.unusedVariables false
theorem WRow.lt {w:World} {B g cap:Nat} {a:List Int} (h:WRow w B g cap a):g < w.heap.size:=h.facts.2.1
end Go.Proofs.YtmnbljijnbhghaaGreatDoor
namespace Go.Proofs.YtmnbljijnbhghaaGreatDoor
set_option maxRecDepth 100000
open Go.RowKit
set_option linter.unusedVariables false
theorem zqta {w:World} {p:Option Addr} {l c:Nat} {z:Int} (h:IsNat w (.slice p l c) z):l = 0 ↔ z = 0:=by
 obtain ⟨a,h1,h2,h3⟩:=h;obtain ⟨p',c',e⟩:=h1.shape;simp only [Value.slice.injEq] at e;have el:l = a.length:=e.2.1
 constructor
 ·intro h0;have:a = []:=List.length_eq_zero_iff.1 (by omega)
  subst this; rw [← h3]; rfl
 ·intro h0;apply Classical.byContradiction;intro hh;have hne:a ≠ []:=fun e => hh (by rw [el,e]; rfl)
  have h4:=h2.wsize h1.2.1 hne;have:=q_pos (a.length - 1);omega
set_option maxRecDepth 100000
open Go.RowKit
set_option linter.unusedVariables false
set_option maxHeartbeats 400000 in
theorem zqxz (a:Int) (h1:-9223372036854775808 ≤ a) (h2:a ≤ 9223372036854775807) (w:World) :
  Calls Tryz.prog 142 #[.int .i64 a] w fun e w' => e = .returned (.int .u64 (a.natAbs:Int)) ∧ w = w':=by
 by_cases h:a < 0
 ·go_enter Tryz.func142,Tryz.ntmps142;go_wp2;go_ret;exact ⟨zqar (by first | omega | (simp [IntKind.wrap,IntKind.bits,IntKind.signed]; omega)),rfl⟩
 ·have h':0 ≤ a:=by omega
  go_enter Tryz.func142,Tryz.ntmps142;go_wp2;go_ret;exact ⟨zqar (by omega),rfl⟩
theorem zqvf (n:Nat):(4294967296:Int) ^ n = 2 ^ (32 * n):=by
 rw [show (4294967296:Int) = 2 ^ 32 by decide,← Int.pow_mul]
theorem zqdw {p N:Nat} (hb:bitsZ (p:Int) ≤ N):p < 2 ^ N:=by
 by_cases h0:p = 0
 ·rw [h0]; exact zqay _
 ·exact (zqje h0 N).2 hb
end Go.Proofs.YtmnbljijnbhghaaGreatDoor
namespace Go.Proofs.YtmnbljijnbhghaaGreatDoor
set_option maxRecDepth 100000
open Go.RowKit
set_option linter.unusedVariables false
theorem zqh7 {w W:World} {a b:Value} (h:Below w.heap.size w W):Kept w W.heap.size 115 (W.alloc (.cells #[a,b] 115)) :=
 ⟨h.trans ((zqab W _).mono h.size),h.size,a,b,heap_alloc_new W _⟩
theorem zqhf (w:World) (o p q:Obj):Below w.heap.size w (((w.alloc o).alloc p).alloc q):=(zqba w o p).trans ((zqab _ q).mono (by simp; omega))
theorem zqxu (N:Nat):((2:Int) ^ N) = ((2 ^ N:Nat):Int):=by simp
theorem zqls {z N:Nat} (h:z ≤ 2 ^ N) (hN:N ≤ 15000):Sized 20000 (z:Int) :=
 zqru (by omega) (by rw [zqxu]; exact Int.ofNat_le.2 h) hN
theorem zqdv {w W:World} {M:Nat} (h:Kept w M 115 W):M < W.heap.size ∧ M ≠ W.heap.size ∧ W.heap.size ≠ M:=by
 obtain ⟨h1,h2,x,y,h3⟩:=h;have:=(Array.getElem?_eq_some_iff.1 h3).1;exact ⟨this,Nat.ne_of_lt this,(Nat.ne_of_lt this).symm⟩
set_option maxRecDepth 100000
open Go.RowKit
set_option linter.unusedVariables false
end Go.Proofs.YtmnbljijnbhghaaGreatDoor
namespace Go.Proofs.YtmnbljijnbhghaaGreatDoor
set_option maxRecDepth 100000
open Go.RowKit
set_option linter.unusedVariables false
theorem zqkd {w:World} {b:Bool} {s:Value} {x:Int} (h:IsNum w (.agg #[.bool b,s]) x):IsNum w (.agg #[.bool false,s]) (x.natAbs:Int):=by
 obtain ⟨neg,s',ds,e,h1,h2,h3,h4,h5,h6⟩:=h;simp only [Value.agg.injEq,Array.mk.injEq,List.cons.injEq,and_true,Value.bool.injEq] at e;obtain ⟨rfl,rfl⟩:=e;refine ⟨false,s,ds,rfl,h1,h2,h3,h4,(fun e => by cases e),?_⟩
 have h0:=(zqa7 h3).1;rw [h6];cases b <;> simp [signed] <;> omega
set_option maxRecDepth 100000
open Go.RowKit
set_option linter.unusedVariables false
set_option maxRecDepth 100000
open Go.RowKit
set_option linter.unusedVariables false
theorem zqyx {w:World} {b:Bool} {s:Value} {z:Int} (h:IsNum w (.agg #[.bool b,s]) z):b = decide (z < 0):=by
 obtain ⟨neg,s',ds,e,h1,h2,h3,h4,h5,h6⟩:=h;simp only [Value.agg.injEq,Array.mk.injEq,List.cons.injEq,and_true,Value.bool.injEq] at e;obtain ⟨rfl,rfl⟩:=e;have h0:=(zqa7 h3).1;cases b
 ·rw [h6,eq_comm,decide_eq_false_iff_not];have e:signed false (val ds) = val ds:=rfl;rw [e]; omega
 ·have hne:=h5 rfl;have hz:=h4.zero h3;have:val ds ≠ 0:=fun e => hne (hz.1 e)
  rw [h6,eq_comm,decide_eq_true_eq];have e:signed true (val ds) = -val ds:=rfl;rw [e]; omega
end Go.Proofs.YtmnbljijnbhghaaGreatDoor
namespace Go.Proofs.YtmnbljijnbhghaaGreatDoor
set_option maxRecDepth 100000
open Go.RowKit
set_option linter.unusedVariables false
theorem zqih {c d:Nat} {q p b:Int} (h:SameD c q d p) (hq:b ≤ q) (hp:b ≤ p):c * 2 ^ (q - b).toNat = d * 2 ^ (p - b).toNat:=by
 obtain ⟨k,⟨h1,h2⟩ | ⟨h1,h2⟩⟩:=h
 ·rw [h2,show (q - b).toNat = k + (p - b).toNat by omega,Nat.pow_add,Nat.mul_assoc]
 ·rw [h2,show (p - b).toNat = k + (q - b).toNat by omega,Nat.pow_add,Nat.mul_assoc]
theorem FV.mono {R S c d:Nat} {q:Int} (h:FV false R c q) (k:FV false S d q) (hcd:c ≤ d):R ≤ S:=by
 obtain ⟨c1,q1,s1,k1,l1,rfl⟩:=h;obtain ⟨d1,p1,s2,k2,l2,rfl⟩:=k;show rungOf c1 q1 ≤ rungOf d1 p1
 apply Nat.le_of_not_lt;intro hlt;obtain ⟨b,hb⟩:∃ b:Int,b = min (min p1 q1) q:=⟨_,rfl⟩
 obtain ⟨m,hm⟩:∃ m:Int,m = min p1 q1:=⟨_,rfl⟩
 have h1:=(zqf9 k2 k1 m hm).2 hlt;have h2:=zqih s1 (b:=b) (by omega) (by omega)
 have h3:=zqih s2 (b:=b) (by omega) (by omega)
 obtain ⟨t,ht⟩:=Int.eq_ofNat_of_zero_le (a:=m - b) (by omega)
 have h4:d1 * 2 ^ (p1 - b).toNat < c1 * 2 ^ (q1 - b).toNat:=by
  rw [show (p1 - b).toNat = (p1 - m).toNat + t by omega,show (q1 - b).toNat = (q1 - m).toNat + t by omega,Nat.pow_add,Nat.pow_add,← Nat.mul_assoc,← Nat.mul_assoc]
  exact Nat.mul_lt_mul_of_pos_right h1 (zqay t)
 rw [← h2,← h3] at h4;have:=Nat.mul_le_mul_right (2 ^ (q - b).toNat) hcd;omega
set_option maxRecDepth 100000
open Go.RowKit
set_option linter.unusedVariables false
set_option maxRecDepth 100000
open Go.RowKit
set_option linter.unusedVariables false
end Go.Proofs.YtmnbljijnbhghaaGreatDoor
namespace Go.Proofs.YtmnbljijnbhghaaGreatDoor
set_option maxRecDepth 100000
open Go.RowKit
set_option linter.unusedVariables false
theorem zqut (x:Nat):sameB x x = true:=by unfold sameB; simp
end Go.Proofs.YtmnbljijnbhghaaGreatDoor
