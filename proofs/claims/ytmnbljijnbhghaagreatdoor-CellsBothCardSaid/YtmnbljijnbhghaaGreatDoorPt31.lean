/- Contracts that the law leans on: Celr Cemb Cels Celu Celw Celx. -/
import Derived.Shelf.SlSortCmp.WholeK
import Derived.Shelf.SlSortCmp.NoneTotal
import Derived.Sort.OwnSorted
import Derived.OwnWalk
import Derived.WalkKit
import Derived.Test.YtmnbljijnbhghaaGreatDoorPt02
import Derived.Test.YtmnbljijnbhghaaGreatDoorPt28
import Derived.Test.YtmnbljijnbhghaaGreatDoorPt30
namespace Go.Proofs.YtmnbljijnbhghaaGreatDoor
set_option maxRecDepth 100000
open Go.RowKit Go.Maps
set_option linter.unusedVariables false
def PutP (B:Nat) (w:World) (b:Nat) (ms:List Ce) (c:Ce) (e:Ending) (w':World):Prop :=
 e = .returned (.int .i64 (withL ms c).1) ∧ ((withL ms c).1 = 0 → CMap B w' b (withL ms c).2) ∧ w.grownBy w' (some b)
theorem zqy2 {B b n:Nat} {w w1 w2:World} {ms:List Ce} {c:Ce} {I N:Value} {D:DataW Value} (h:CMap B w b ms) (hB:B ≤ w.heap.size) (hb:Below w.heap.size w w1)
  (hD:MapV w1 b ms.length D ∧ Maps.size D = ms.length ∧ (∀ k,Maps.has D (keyV k) = (lookC ms k).isSome) ∧ ∀ c ∈ ms,∃ I N,(∀ z,D.atKey (keyV c.key) z = .held (CeV c I N)) ∧ CeS B w1 I N c)
  (hn:lookC ms c.key = none) (hc:CeS B w1 I N c) (ho:MapV w2 b n (D.put (keyV c.key) (.held (CeV c I N)))) (hg:w1.grownBy w2 (some b)) :
  PutP B w b ms c (.returned (.int .i64 0)) w2:=by
 obtain ⟨h1,h2,h3,h4⟩:=zqx1 (c:=c) h.r (zqg3 hn);refine ⟨by rw [h1]; rfl,fun _ => ?_,((zqcq hb).but _).trans hg⟩
 exact (h.below hB hb).put (Nat.le_trans hB hb.size) hD ho hg hc h3 (fun z => by
  rw [h4]
  constructor
  ·rintro (q | q)
   ·exact .inl q
   ·exact .inr ⟨q,zqg3 hn z q⟩
  ·rintro (q | ⟨q,-⟩)
   ·exact .inl q
   ·exact .inr q) (by rw [h2,hn]; rfl)
theorem zqy3 {B b n:Nat} {w w1 w2:World} {ms:List Ce} {c x:Ce} {I N:Value} {D:DataW Value} (h:CMap B w b ms) (hB:B ≤ w.heap.size) (hb:Below w.heap.size w w1)
  (hD:MapV w1 b ms.length D ∧ Maps.size D = ms.length ∧ (∀ k,Maps.has D (keyV k) = (lookC ms k).isSome) ∧ ∀ c ∈ ms,∃ I N,(∀ z,D.atKey (keyV c.key) z = .held (CeV c I N)) ∧ CeS B w1 I N c)
  (hn:lookC ms c.key = some x) (he:errJ x c = 0) (hc:CeS B w1 I N (joinC x c)) (ho:MapV w2 b n (D.put (keyV c.key) (.held (CeV (joinC x c) I N)))) (hg:w1.grownBy w2 (some b)) :
  PutP B w b ms c (.returned (.int .i64 0)) w2:=by
 obtain ⟨hx,hk⟩:=zqde hn;obtain ⟨h1,h2⟩:=zqir h.r hx hk;obtain ⟨h3,h4,h5⟩:=h2 he;have hkey:(joinC x c).key = c.key:=(zqdd he).trans hk;refine ⟨by rw [h1,he]; rfl,fun _ => ?_,((zqcq hb).but _).trans hg⟩
 exact (h.below hB hb).put (c:=joinC x c) (Nat.le_trans hB hb.size) hD (by rw [hkey]; exact ho) hg hc h4 (fun z => by rw [h5,hkey]) (by rw [h3,hkey,hn]; rfl)
theorem zqy1 {B b:Nat} {w w1:World} {ms:List Ce} {c x:Ce} (h:CMap B w b ms) (hn:lookC ms c.key = some x) (he:errJ x c ≠ 0) (hb:Below w.heap.size w w1):PutP B w b ms c (.returned (.int .i64 (errJ x c))) w1:=by
 obtain ⟨hx,hk⟩:=zqde hn;obtain ⟨h1,-⟩:=zqir h.r hx hk;exact ⟨by rw [h1],fun q => absurd (h1.symm.trans q) he,(zqcq hb).but _⟩
theorem zqcg {B b:Nat} {w w1:World} {ms:List Ce} {D:DataW Value} (hB:B ≤ w.heap.size) (hb:Below w.heap.size w w1)
  (hD:MapV w b ms.length D ∧ Maps.size D = ms.length ∧ (∀ k,Maps.has D (keyV k) = (lookC ms k).isSome) ∧ ∀ c ∈ ms,∃ I N,(∀ z,D.atKey (keyV c.key) z = .held (CeV c I N)) ∧ CeS B w I N c) :
  MapV w1 b ms.length D ∧ Maps.size D = ms.length ∧ (∀ k,Maps.has D (keyV k) = (lookC ms k).isSome) ∧ ∀ c ∈ ms,∃ I N,(∀ z,D.atKey (keyV c.key) z = .held (CeV c I N)) ∧ CeS B w1 I N c :=
 ⟨hD.1.kept (zqcq hb) (by simp),hD.2.1,hD.2.2.1,fun c hc => by obtain ⟨I,N,h5,h6⟩:=hD.2.2.2 c hc; exact ⟨I,N,h5,h6.keep (zqag hB hb)⟩⟩
set_option maxHeartbeats 16000000 in
theorem zqe5 (B:Nat) (w:World) (b:Nat) (ms:List Ce) (c:Ce) (I N:Value) (h:CMap B w b ms) (hB:B ≤ w.heap.size) (hc:CeM w I N c) (sc:Sm c) (sm:∀ x ∈ ms,Sm x) (hT:Tab w) (hl:ms.length ≤ 100000) :
  Calls Tryz.prog 41 #[.map (some b),CeV c I N] w (PutP B w b ms c):=by
 have hmx:(100000:Nat) + 1 ≤ maxLen:=by unfold maxLen; omega
 have hkc:=sc.w.key;have HC:=zh h;have HcS:=zh hc;have HSc:=zh sc;have HT:=zh hT;obtain ⟨D,hD⟩:=h.m;have HD:=zh hD;have HO:=zh (fun w1 (h1:Below w.heap.size w w1) => zqw9 w1 c I N (hc.below h1) sc.own)
 cases hlk:lookC ms c.key with
 | none =>
  have hh:Maps.has D (keyV c.key) = false:=by rw [hD.2.2.1,hlk]; rfl
  have HL:=zh (fun w1 (h1:Below w.heap.size w w1) => show (Instr.lookup 81 (.map (some b)) (.int .u64 c.key) true).run Tryz.prog w1 = .ok (.tuple #[.agg #[.int .u64 0,.int .i64 0,.slice none 0 0,.slice none 0 0],.bool false]) w1 from (zqm6 (zqcg hB h1 hD).1 hkc).1 hh)
  have HE:=zh (fun w1 w2 n I' N' (h1:Below w.heap.size w w1) (ho:CeOwn w1 w.heap.size I' N' c) (hm:MapV w2 b n (D.put (keyV c.key) (.held (CeV c I' N')))) (hg:w1.grownBy w2 (some b)) => zqy2 h hB h1 (zqcg hB h1 hD) hlk (zqmn (ho.low hB)) hm hg)
  have HU:=zh (fun w1 I' N' (h1:Below w.heap.size w w1) => show ∃ w2,(Instr.mapUpdate 81 (.map (some b)) (.int .u64 c.key) (CeV c I' N')).run Tryz.prog w1 = .ok () w2 ∧ MapV w2 b (ms.length + 1) (D.put (keyV c.key) (.held (CeV c I' N'))) ∧ w1.grownBy w2 (some b) from World.ownsMap.update (zqcg hB h1 hD).1 lawU15 Tryz.underlying81 (show ms.length < maxLen by omega) (key15 hkc) (zqfs (c.key,c.cnt,I',N')))
  clear hD hc hlk hh h;go_enter Tryz.func41,Tryz.ntmps41;have hl1:=HL.out _ (zqab w (CeO c I N));go_upto_region 3 with fail;obtain ⟨hx,-,hbW,-⟩:=zqlf w c I N;obtain ⟨⟨x0,x1,x2,x3⟩,-⟩:=zqac hx;have HBW:=zh hbW;clear hl1 hx hbW;generalize (w.alloc (CeO c I N)).alloc (.cells #[.int .u64 0,.int .i64 0,.slice none 0 0,.slice none 0 0] 38) = W at *;go_region_law (first
   | (go_simp; go_at_call 54; refine (HO.out _ (by first | exact HBW.out.drew | exact HBW.out)).mono ?_; rintro e w1 ⟨I',N',rfl,hO,hb1⟩; have hb2:Below W.heap.size W w1:=zqaw hb1; have hb3:=zqaa HBW.out hb2; have y0:=cell_later hb2 x0; obtain ⟨w2,hup,hm2,hg2⟩:=HU.out w1 I' N' hb3; have HF:=zh (HE.out w1 w2 _ I' N' hb3 (hO.low HBW.out.size) hm2 hg2)))
  all_goals
   go_wp2_with fail;go_ret;exact HF.out
 | some x =>
  obtain ⟨hx,hkx⟩:=zqde hlk;obtain ⟨I2,N2,hat,hcs⟩:=hD.2.2.2 x hx;rw [hkx] at hat;obtain ⟨⟨ia,ik,rfl⟩,na,nk,rfl⟩:=hcs.mem.slices;have HL:=zh (fun w1 (h1:Below w.heap.size w w1) => show (Instr.lookup 81 (.map (some b)) (.int .u64 c.key) true).run Tryz.prog w1 = .ok (.tuple #[CeV x (.slice ia x.is.length ik) (.slice na x.ns.length nk),.bool true]) w1 from (zqm6 (zqcg hB h1 hD).1 hkc).2 (x.key,x.cnt,.slice ia x.is.length ik,.slice na x.ns.length nk) hat)
  have HJ:=zh (fun w1 (h1:Below w.heap.size w w1) => show Calls Tryz.prog 55 #[CeV x (.slice ia x.is.length ik) (.slice na x.ns.length nk),CeV c I N] w1 fun e w' => ∃ I3 N3,e = .returned (.tuple #[CeV (joinC x c) I3 N3,.int .i64 (errJ x c)]) ∧ CeOwn w' w1.heap.size I3 N3 (joinC x c) ∧ Below w1.heap.size w1 w' from by
   refine (zqop w1 x c _ _ I N (hcs.keep (zqag hB h1)).mem (hc.below h1) (sm x hx).w sc.w ((sm x hx).s.mono (by decide)) (sc.s.mono (by decide)) (hT.call h1)).mono ?_
   rintro e w2 ⟨y,I3,N3,rfl,h2,h3,h4,h5⟩;obtain rfl:=zqh6 h3 h4;exact ⟨I3,N3,rfl,h2,h5⟩)
  have HN:=zh (fun w1 (he:errJ x c ≠ 0) (h1:Below w.heap.size w w1) => zqy1 h hlk he h1)
  have HE:=zh (fun w1 w2 n I' N' (he:errJ x c = 0) (h1:Below w.heap.size w w1) (ho:CeOwn w1 w.heap.size I' N' (joinC x c)) (hm:MapV w2 b n (D.put (keyV c.key) (.held (CeV (joinC x c) I' N')))) (hg:w1.grownBy w2 (some b)) => zqy3 h hB h1 (zqcg hB h1 hD) hlk he (zqmn (ho.low hB)) hm hg)
  have HM:=zh (fun w1 (h1:Below w.heap.size w w1) => (zqcg hB h1 hD).1)
  clear hD hc hlk h hat hcs hx hkx sm;generalize joinC x c = y at *;generalize errJ x c = E at *;go_enter Tryz.func41,Tryz.ntmps41;have hl1:=HL.out _ (zqab w (CeO c I N));go_upto_region 5 with fail;obtain ⟨⟨x0,x1,x2,x3⟩,-⟩:=zqac (show ((w.alloc (CeO c I N)).alloc (.cells #[.int .u64 x.key,.int .i64 x.cnt,.slice ia x.is.length ik,.slice na x.ns.length nk] 38)).heap[w.heap.size]? = some (.cells (boxV c.key c.cnt I N) 38 (0,0)) from ((zqab (w.alloc (CeO c I N)) _).block _ (by simp)).trans (heap_alloc_new w _))
  obtain ⟨⟨y0,y1,y2,y3⟩,-⟩:=zqac (show ((w.alloc (CeO c I N)).alloc (.cells #[.int .u64 x.key,.int .i64 x.cnt,.slice ia x.is.length ik,.slice na x.ns.length nk] 38)).heap[w.heap.size + 1]? = some (.cells (boxV x.key x.cnt (.slice ia x.is.length ik) (.slice na x.ns.length nk)) 38 (0,0)) from by
   have:=heap_alloc_new (w.alloc (CeO c I N)) (.cells #[.int .u64 x.key,.int .i64 x.cnt,.slice ia x.is.length ik,.slice na x.ns.length nk] 38);simpa using this)
  have HBW:=zh (zqaa (zqab w (CeO c I N)) (zqab (w.alloc (CeO c I N)) (.cells #[.int .u64 x.key,.int .i64 x.cnt,.slice ia x.is.length ik,.slice na x.ns.length nk] 38)));clear hl1;generalize (w.alloc (CeO c I N)).alloc (.cells #[.int .u64 x.key,.int .i64 x.cnt,.slice ia x.is.length ik,.slice na x.ns.length nk] 38) = W at *;go_wp2_with fail;refine (HJ.out W HBW.out).mono ?_; rintro e w1 ⟨I3,N3,rfl,hO,hb1⟩;have HO3:=zh (hO.low HBW.out.size);have HB1:=zh (zqaa HBW.out hb1);have z0:=cell_later hb1 x0;obtain ⟨⟨ja,jk,rfl⟩,ma,mk,rfl⟩:=hO.slices;have z1:=cell_later (zqab w1 (CeO y (.slice ja y.is.length jk) (.slice ma y.ns.length mk))) z0;clear hO hb1 x0 x1 x2 x3 y0 y1 y2 y3
  by_cases he:E = 0
  ·subst he;have HMx:=zh (HM.out _ (zqaa HB1.out (zqab w1 (CeO y (.slice ja y.is.length jk) (.slice ma y.ns.length mk)))));have HBx:=zh (zqaa HB1.out (zqab w1 (CeO y (.slice ja y.is.length jk) (.slice ma y.ns.length mk))));go_wp2_with (at_mapUpdate; go_loud (refine wpList_mapUpdate_own _ rfl _ _ _ 81 rfl 34 38 lawU15 Tryz.underlying81 heldE b ms.length D rfl HMx.out (by omega) _ _ (keyV c.key) rfl rfl (key15 hkc) _ [] (zqfs (y.key,y.cnt,.slice ja y.is.length jk,.slice ma y.ns.length mk)) ?_; intro w2 hm2 hg2; have HF:=zh (HE.out _ w2 _ _ _ (by trivial) HBx.out (HO3.out.below (zqab _ _)) hm2 hg2)))
   go_ret;exact HF.out
  ·have he':¬ (E:Int) = 0:=by omega
   have HF:=zh (HN.out _ he (zqaa HB1.out (zqab w1 (CeO y (.slice ja y.is.length jk) (.slice ma y.ns.length mk)))));go_wp2_with fail;go_ret;exact HF.out
theorem zqre (B:Nat) (w:World) (b:Nat) (ms:List Ce) (c:Ce) (I N:Value) (h:CMap B w b ms) (hB:B ≤ w.heap.size) (hc:CeS B w I N c) (sc:Sm c) (sm:∀ x ∈ ms,Sm x) (hT:Tab w) (hl:ms.length ≤ 100000) :
  Calls Tryz.prog 41 #[.map (some b),CeV c I N] w (PutP B w b ms c):=zqe5 B w b ms c I N h hB hc.mem sc sm hT hl
end Go.Proofs.YtmnbljijnbhghaaGreatDoor
namespace Go.Proofs.YtmnbljijnbhghaaGreatDoor
set_option maxRecDepth 100000
open Go.RowKit
set_option linter.unusedVariables false
def Sv (n:Nat) (c:Ce):Prop:=CeW c ∧ ShortV n c ∧ ∀ k,k < c.ns.length → (rg c.ns k).sum.length ≤ 100000
theorem Sv.sm {n:Nat} {c:Ce} (h:Sv n c):Sm c:=⟨h.1,h.2.1.c.mono (by decide),h.2.2⟩
theorem Sv.ref {n:Nat} {c:Ce} (h:Sv n c):CeW c ∧ ShortC 31 c:=⟨h.1,h.2.1.c.mono (by decide)⟩
theorem Sv.mono {n m:Nat} {c:Ce} (h:Sv n c) (hm:n ≤ m):Sv m c:=by
 refine ⟨h.1,⟨h.2.1.li,h.2.1.ln,fun k hk => ⟨(h.2.1.sq k hk).1,Int.le_trans (h.2.1.sq k hk).2 ?_⟩⟩,h.2.2⟩
 exact Int.mul_le_mul_of_nonneg_right (by omega) (by decide)
theorem Sv.key {n:Nat} {c:Ce} (h:Sv n c) (k:Int) (hk:0 ≤ k ∧ k ≤ 18446744073709551615):Sv n ⟨k,c.cnt,c.is,c.ns⟩ :=
 ⟨⟨hk,h.1.cnt,h.1.is,h.1.ns⟩,⟨h.2.1.li,h.2.1.ln,h.2.1.sq⟩,h.2.2⟩
theorem zqwv {c:Ce} (h:lightC c = true) (hw:CeW c):Sv 1 c:=by
 refine ⟨hw,zqm5 h hw,fun k hk => ?_⟩
 have h4:=(zqeq.1 h).2.2.2 k hk;omega
theorem zqzm {n:Nat} {a b:Ce} (ha:Sv n a) (hb:Sv 1 b) (hn:n ≤ 1000) (e:errJ a b = 0):Sv (n + 1) (joinC a b):=by
 obtain ⟨h1,h2⟩:=zqtb ha.1 hb.1 ha.2.1 hb.2.1 hn e;refine ⟨h1,h2,fun k hk => ?_⟩
 have hj:=zqk6 ha.1 hb.1 e;have hr:=(hj.ns k (by rw [← hj.ln]; exact hk)).sum
 obtain ⟨l,-,-,-,hl,he⟩:=hr;rw [he,zqhz];omega
theorem zqko:∀ {l:List Ce} {c:Ce} {n:Nat},(∀ x ∈ l,Sv n x) → Sv 1 c → 1 ≤ n → n ≤ 1000 → ∀ x ∈ (withL l c).2,Sv (n + 1) x
 | [],c,n,_,hc,h1,_,x,hx => by
  obtain rfl:x = c:=by simpa [withL] using hx
  exact hc.mono (by omega)
 | y :: l,c,n,hl,hc,h1,hn,x,hx => by
  have hy:=hl y (List.mem_cons_self ..);have ih:=fun x => zqko (l:=l) (c:=c) (n:=n) (fun z hz => hl z (List.mem_cons_of_mem _ hz)) hc h1 hn x
  unfold withL at hx
  by_cases q:y.key < c.key
  ·rw [if_pos q] at hx
   by_cases e:(withL l c).1 = 0
   ·rw [if_pos e] at hx;rcases List.mem_cons.1 hx with rfl | hx
    ·exact hy.mono (by omega)
    ·exact ih x hx
   ·rw [if_neg e] at hx; cases hx
  ·rw [if_neg q] at hx
   by_cases q2:y.key = c.key
   ·rw [if_pos q2] at hx
    by_cases e:errJ y c = 0
    ·rw [if_pos e] at hx;rcases List.mem_cons.1 hx with rfl | hx
     ·exact zqzm hy hc hn e
     ·exact (hl x (List.mem_cons_of_mem _ hx)).mono (by omega)
    ·rw [if_neg e] at hx; cases hx
   ·rw [if_neg q2] at hx;rcases List.mem_cons.1 hx with rfl | hx
    ·exact hc.mono (by omega)
    ·exact (hl x hx).mono (by omega)
theorem zqn1 (l:List Ce) (c:Ce):(withL l c).2.length ≤ l.length + 1:=by
 induction l with
 | nil => simp [withL]
 | cons y l ih =>
  unfold withL
  split
  ·split
   ·simpa using ih
   ·simp
  ·split
   ·split
    ·simp
    ·simp
   ·simp
theorem zqn0 {l:List Ce} {c:Ce} (h:(withL l c).1 ≠ 0):(withL l c).2 = []:=by
 cases l with
 | nil => exact absurd rfl h
 | cons y l =>
  unfold withL at h ⊢
  split at h
  ·next q =>
   rw [if_pos q]
   split at h
   ·exact absurd rfl h
   ·next q2 => rw [if_neg q2]
  ·next q =>
   rw [if_neg q]
   split at h
   ·next q2 =>
    rw [if_pos q2]
    split at h
    ·exact absurd rfl h
    ·next q3 => rw [if_neg q3]
   ·exact absurd rfl h
theorem zqem:∀ (l acc:List Ce) (c:Ce),foldC acc (l ++ [c]) = if (foldC acc l).1 = 0 then withL (foldC acc l).2 c else foldC acc l
 | [],acc,c => by
  show (if (withL acc c).1 = 0 then foldC (withL acc c).2 [] else ((withL acc c).1,[])) = withL acc c
  by_cases h:(withL acc c).1 = 0
  ·rw [if_pos h]; exact Prod.ext h.symm rfl
  ·rw [if_neg h]; exact Prod.ext rfl (zqn0 h).symm
 | x :: l,acc,c => by
  by_cases h:(withL acc x).1 = 0
  ·have e1:∀ m,foldC acc (x :: m) = foldC (withL acc x).2 m:=fun m => by rw [foldC,if_pos h]
   rw [List.cons_append,e1,e1,zqem l]
  ·have e1:∀ m,foldC acc (x :: m) = ((withL acc x).1,[]):=fun m => by rw [foldC,if_neg h]
   rw [List.cons_append,e1,e1,if_neg h]
theorem zqwj {l acc:List Ce} (m:List Ce) (h:(foldC acc l).1 ≠ 0):foldC acc (l ++ m) = foldC acc l:=by
 induction m generalizing l with
 | nil => rw [List.append_nil]
 | cons x m ih =>
  have e:foldC acc (l ++ [x]) = foldC acc l:=by rw [zqem,if_neg h]
  rw [show l ++ x :: m = (l ++ [x]) ++ m by simp,ih (by rw [e]; exact h),e]
theorem zqs1 {l:List Ce} {k e:Nat} (hk:k < l.length) (h0:(foldC [] (l.take k)).1 = 0) (he:(withL (foldC [] (l.take k)).2 (cg l k)).1 = e) (hne:e ≠ 0):foldC [] l = (e,[]):=by
 have h1:foldC [] (l.take (k + 1)) = withL (foldC [] (l.take k)).2 (cg l k):=by
  rw [List.take_succ_eq_append_getElem hk,zqem,if_pos h0,zqat hk]
 have h2:foldC [] l = foldC [] (l.take (k + 1)):=by
  have:=zqwj (acc:=[]) (l:=l.take (k + 1)) (l.drop (k + 1)) (by rw [h1,he]; exact hne)
  rwa [List.take_append_drop] at this
 rw [h2,h1];exact Prod.ext he (zqn0 (by rw [he]; exact hne))
theorem zqs0 {l:List Ce} {k:Nat} (hk:k < l.length) (h0:(foldC [] (l.take k)).1 = 0):foldC [] (l.take (k + 1)) = withL (foldC [] (l.take k)).2 (cg l k):=by
 rw [List.take_succ_eq_append_getElem hk,zqem,if_pos h0,zqat hk]
structure Sofar (l:List Ce) (k:Nat) (ms:List Ce):Prop where
 f:foldC [] (l.take k) = (0,ms)
 v:∀ x ∈ ms,Sv (k + 1) x
 n:ms.length ≤ k
theorem Sofar.start (l:List Ce):Sofar l 0 []:=⟨rfl,(fun x hx => by cases hx),Nat.le_refl _⟩
theorem Sofar.next {l ms:List Ce} {k:Nat} (h:Sofar l k ms) (hk:k < l.length) (hv:Sv 1 (cg l k)) (hl:k ≤ 900) (e:(withL ms (cg l k)).1 = 0):Sofar l (k + 1) (withL ms (cg l k)).2:=by
 have h0:(foldC [] (l.take k)).1 = 0:=by rw [h.f]
 refine ⟨?_,fun x hx => ?_,?_⟩
 ·rw [zqs0 hk h0,h.f];exact Prod.ext e rfl
 ·exact zqko h.v hv (by omega) (by omega) x hx
 ·have:=zqn1 ms (cg l k);have:=h.n;omega
theorem Sofar.stop {l ms:List Ce} {k:Nat} (h:Sofar l k ms) (hk:k < l.length) (e:(withL ms (cg l k)).1 ≠ 0):foldC [] l = ((withL ms (cg l k)).1,[]) :=
 zqs1 hk (by rw [h.f]) (by rw [h.f]) e
theorem Sofar.end {l ms:List Ce} (h:Sofar l l.length ms):foldC [] l = (0,ms):=by
 have:=h.f
 rwa [List.take_length] at this
theorem zqmw:∀ (l acc:List Ce),(∀ c ∈ l,c.key = 0) → (acc = [] ∨ ∃ a,acc = [a] ∧ a.key = 0) → (foldC acc l).1 = 0 → (l = [] ∧ (foldC acc l).2 = acc) ∨ ∃ a,(foldC acc l).2 = [a] ∧ a.key = 0
 | [],acc,_,_,_ => .inl ⟨rfl,rfl⟩
 | c :: l,acc,h,ha,e => by
  have hc:=h c (List.mem_cons_self ..)
  by_cases q:(withL acc c).1 = 0
  ·have e1:foldC acc (c :: l) = foldC (withL acc c).2 l:=by rw [foldC,if_pos q]
   rw [e1] at e ⊢;have h1:∃ a,(withL acc c).2 = [a] ∧ a.key = 0:=by
    rcases ha with rfl | ⟨a,rfl,hk⟩
    ·exact ⟨c,rfl,hc⟩
    ·by_cases z:errJ a c = 0
     ·exact ⟨joinC a c,by rw [withL,if_neg (by omega),if_pos (by omega),if_pos z],(zqdd z).trans hk⟩
     ·rw [withL,if_neg (by omega),if_pos (by omega),if_neg z] at q
      exact absurd q z
   rcases zqmw l _ (fun x hx => h x (List.mem_cons_of_mem _ hx)) (.inr h1) e with ⟨rfl,h2⟩ | h2
   ·obtain ⟨a,h3,h4⟩:=h1;exact .inr ⟨a,h2.trans h3,h4⟩
   ·exact .inr h2
  ·have e1:foldC acc (c :: l) = ((withL acc c).1,[]):=by rw [foldC,if_neg q]
   rw [e1] at e;exact absurd e q
theorem Sofar.one {l ms:List Ce} {k:Nat} (h:Sofar l k ms) (hl:∀ c ∈ l,c.key = 0) (hk:1 ≤ k) (hkl:k ≤ l.length):∃ a,ms = [a] ∧ a.key = 0:=by
 rcases zqmw (l.take k) [] (fun c hc => hl c (List.mem_of_mem_take hc)) (.inl rfl) (by rw [h.f]) with ⟨h1,-⟩ | h1
 ·have h2:=congrArg List.length h1;rw [List.length_take_of_le hkl] at h2;simp at h2;omega
 ·rwa [h.f] at h1
noncomputable def totalE (l:List Ce):Nat × Ce:=if l = [] then (11,ce0) else if (foldC [] (l.map zeroK)).1 = 0 then (0,cg (foldC [] (l.map zeroK)).2 0) else ((foldC [] (l.map zeroK)).1,ce0)
end Go.Proofs.YtmnbljijnbhghaaGreatDoor
namespace Go.Proofs.YtmnbljijnbhghaaGreatDoor
set_option maxRecDepth 100000
open Go.Shelf
def zqgw:Go.Shelf.Ren:=⟨fun | 6 => 98 | 15 => 149 | 14 => 148 | 28 => 182 | 29 => 183 | 20 => 174 | 21 => 175 | 22 => 176 | 23 => 177 | 24 => 178 | 25 => 179 | 26 => 180 | 27 => 181 | 46 => 197 | 47 => 198 | 48 => 199 | 49 => 200 | 50 => 201 | 57 => 210 | n => n,fun | 22 => 28 | 24 => 38 | 25 => 149 | 3 => 3 | 39 => 137 | 0 => 0 | 53 => 27 | 55 => 34 | 4 => 4 | 46 => 217 | 45 => 216 | 50 => 45 | 5 => 5 | 9 => 9 | 66 => 236 | 70 => 240 | 76 => 249 | 77 => 250 | n => n,fun | n => n⟩
theorem sortC:Go.Proofs.SlLaysF0.n6 Tryz.prog zqgw:={
 mixed:=by kernel_rfl,
 f6:=⟨Tryz.f98.name,by decide,Tryz.func98.trans (congrArg some (by kernel_rfl))⟩,
 f14:=⟨Tryz.f148.name,by decide,Tryz.func148.trans (congrArg some (by kernel_rfl))⟩,
 f15:=Tryz.func149.trans (congrArg some (by kernel_rfl)),
 f20:=⟨Tryz.f174.name,by decide,Tryz.func174.trans (congrArg some (by kernel_rfl))⟩,
 f21:=⟨Tryz.f175.name,by decide,Tryz.func175.trans (congrArg some (by kernel_rfl))⟩,
 f22:=⟨Tryz.f176.name,by decide,Tryz.func176.trans (congrArg some (by kernel_rfl))⟩,
 f23:=⟨Tryz.f177.name,by decide,Tryz.func177.trans (congrArg some (by kernel_rfl))⟩,
 f24:=⟨Tryz.f178.name,by decide,Tryz.func178.trans (congrArg some (by kernel_rfl))⟩,
 f25:=⟨Tryz.f179.name,by decide,Tryz.func179.trans (congrArg some (by kernel_rfl))⟩,
 f26:=⟨Tryz.f180.name,by decide,Tryz.func180.trans (congrArg some (by kernel_rfl))⟩,
 f27:=⟨Tryz.f181.name,by decide,Tryz.func181.trans (congrArg some (by kernel_rfl))⟩,
 f28:=Tryz.func182.trans (congrArg some (by kernel_rfl)),
 f29:=Tryz.func183.trans (congrArg some (by kernel_rfl)),
 f46:=⟨Tryz.f197.name,by decide,Tryz.func197.trans (congrArg some (by kernel_rfl))⟩,
 f47:=Tryz.func198.trans (congrArg some (by kernel_rfl)),
 f48:=Tryz.func199.trans (congrArg some (by kernel_rfl)),
 f49:=⟨Tryz.f200.name,by decide,Tryz.func200.trans (congrArg some (by kernel_rfl))⟩,
 f50:=⟨Tryz.f201.name,by decide,Tryz.func201.trans (congrArg some (by kernel_rfl))⟩,
 f57:=⟨Tryz.f210.name,by decide,Tryz.func210.trans (congrArg some (by kernel_rfl))⟩,
 t0:=Tryz.underlying0,
 a0:=Tryz.isAgg0,
 z0:=Tryz.sizeOf0,
 v0:=Tryz.zeroValue0,
 t3:=Tryz.underlying3,
 a3:=Tryz.isAgg3,
 z3:=Tryz.sizeOf3,
 v3:=Tryz.zeroValue3,
 t4:=Tryz.underlying4,
 a4:=Tryz.isAgg4,
 z4:=Tryz.sizeOf4,
 v4:=Tryz.zeroValue4,
 t5:=Tryz.underlying5,
 a5:=Tryz.isAgg5,
 z5:=Tryz.sizeOf5,
 v5:=Tryz.zeroValue5,
 t9:=Tryz.underlying9,
 a9:=Tryz.isAgg9,
 z9:=Tryz.sizeOf9,
 v9:=Tryz.zeroValue9,
 t22:=Tryz.underlying28,
 a22:=Tryz.isAgg28,
 z22:=Tryz.sizeOf28,
 v22:=Tryz.zeroValue28,
 t25:=Tryz.underlying149,
 a25:=Tryz.isAgg149,
 z25:=Tryz.sizeOf149,
 v25:=Tryz.zeroValue149,
 t39:=Tryz.underlying137,
 a39:=Tryz.isAgg137,
 z39:=Tryz.sizeOf137,
 v39:=Tryz.zeroValue137,
 t45:=Tryz.underlying216,
 a45:=Tryz.isAgg216,
 z45:=Tryz.sizeOf216,
 v45:=Tryz.zeroValue216,
 t46:=Tryz.underlying217,
 a46:=Tryz.isAgg217,
 z46:=Tryz.sizeOf217,
 v46:=Tryz.zeroValue217,
 t50:=Tryz.underlying45,
 a50:=Tryz.isAgg45,
 z50:=Tryz.sizeOf45,
 v50:=Tryz.zeroValue45,
 t53:=Tryz.underlying27,
 a53:=Tryz.isAgg27,
 z53:=Tryz.sizeOf27,
 v53:=Tryz.zeroValue27,
 t55:=Tryz.underlying34,
 a55:=Tryz.isAgg34,
 z55:=Tryz.sizeOf34,
 v55:=Tryz.zeroValue34,
 t66:=Tryz.underlying236,
 a66:=Tryz.isAgg236,
 z66:=Tryz.sizeOf236,
 v66:=Tryz.zeroValue236,
 t70:=Tryz.underlying240,
 a70:=Tryz.isAgg240,
 z70:=Tryz.sizeOf240,
 v70:=Tryz.zeroValue240,
 t76:=Tryz.underlying249,
 a76:=Tryz.isAgg249,
 z76:=Tryz.sizeOf249,
 v76:=Tryz.zeroValue249,
 t77:=Tryz.underlying250,
 a77:=Tryz.isAgg250,
 z77:=Tryz.sizeOf250,
 v77:=Tryz.zeroValue250 }
end Go.Proofs.YtmnbljijnbhghaaGreatDoor
namespace Go.Proofs.YtmnbljijnbhghaaGreatDoor
set_option maxRecDepth 100000
open Go.RowKit Go.Shelf Go.Lib Go.Sort
set_option linter.unusedVariables false
abbrev CV:={ p:Value × Value × Ce // p.1.oneCell' = true ∧ p.2.1.oneCell' = true }
instance instCV:Inhabited CV:=⟨⟨(.bool false,.bool false,ce0),rfl,rfl⟩⟩
def encC (x:CV):List Value:=rowC x.1
def cvL (l:List CV):List (Value × Value × Ce):=l.map Subtype.val
theorem zqpk:∀ {ps:List (Value × Value × Ce)},(∀ p ∈ ps,p.1.oneCell' = true ∧ p.2.1.oneCell' = true) → ∃ l:List CV,cvL l = ps
 | [],_ => ⟨[],rfl⟩
 | p :: ps,h => by
  obtain ⟨l,hl⟩:=zqpk (ps:=ps) fun q hq => h q (List.mem_cons_of_mem _ hq)
  exact ⟨⟨p,h p (List.mem_cons_self ..)⟩ :: l,congrArg (p :: ·) hl⟩
theorem zqcy (l:List CV):(cvL l).length = l.length:=by simp [cvL]
theorem zqi7 (l:List CV):flatK encC 4 l.toArray = (cellsC (cvL l)).toArray:=by
 refine ext_get! (by simp [zqcy,zqco]) fun t ht => ?_
 have ht':t < l.length * 4:=by simpa using ht
 have hi:t / 4 < l.length:=by omega
 have h:=zqcn (cvL l) (t / 4) (t % 4) (by rw [zqcy]; exact hi) (Nat.mod_lt _ (by decide))
 rw [show t / 4 * 4 + t % 4 = t by omega] at h
 rw [get_flatK _ _ _ t (by simpa using ht')]
 have e1:l.toArray[t / 4]! = l[t / 4]:=by simp [hi]
 have e2:(cvL l)[t / 4]'(by rw [zqcy]; exact hi) = (l[t / 4]).1:=by simp [cvL]
 rw [e2] at h;have h1:(cellsC (cvL l)).toArray[t]! = (cellsC (cvL l))[t]! :=by simp
 rw [e1,h1];have h2:(cellsC (cvL l))[t]! = ((cellsC (cvL l))[t]?).getD default:=by simp
 have h3:(encC l[t / 4])[t % 4]! = ((encC l[t / 4])[t % 4]?).getD default:=by simp
 rw [h2,h3,h]
 rfl
theorem holdsC {w:World} {g:Nat} {cur:Array Value} {e:TypeId} {ss:List Value} (hb:w.heap[g]? = some (.cells cur e (0,0))) (ht:cur.toList.take ss.length = ss):Holds id w g 0 ss.toArray:=by
 intro j hj;have hj':j < ss.length:=by simpa using hj
 refine ⟨?_,by simp [World.frozen?,hb]⟩
 have h1:(cur.toList.take ss.length)[j]? = ss[j]?:=by rw [ht]
 rw [List.getElem?_take_of_lt hj'] at h1;simp only [World.cell?,hb,Nat.zero_add];simp only [Option.isSome_none,Bool.false_eq_true,if_false];rw [← Array.getElem?_toList,h1];simp [hj']
theorem heapC {w:World} {g n:Nat} {os:Array Obj} {cur:Array Value} {e:TypeId} {fr:Nat × Nat} (d:Array Value) (hb:w.heap[g]? = some (.cells cur e fr)) :
  (grow (putRow id (Sort.ahead w n) g 0 d) os).heap[g]? = some (.cells (putCells id 0 d cur) e fr):=by
 have hg:g < w.heap.size:=(Array.getElem?_eq_some_iff.1 hb).1;rw [heap_grow_old _ _ (by simpa using hg)]
 simp [putRow,mapBlock,Sort.ahead,Array.getElem?_modify,hb,onCells]
theorem grownC {w:World} {g n:Nat} {os:Array Obj} (d:Array Value):w.grownBy (grow (putRow id (Sort.ahead w n) g 0 d) os) (some g):=by
 refine ⟨rfl,rfl,rfl,by simp,fun k hk hne => ?_⟩
 rw [heap_grow_old _ _ (by simpa using hk)]
 have:g ≠ k:=fun e => hne (by rw [e])
 simp [putRow,mapBlock,Sort.ahead,Array.getElem?_modify,this]
theorem takeC (cur:Array Value) (ts:List Value) (h:ts.length ≤ cur.size):(putCells id 0 ts.toArray cur).toList.take ts.length = ts:=by
 apply List.ext_getElem?;intro j
 by_cases hj:j < ts.length
 ·rw [List.getElem?_take_of_lt hj,Array.getElem?_toList];simp [putCells,hj,show j < cur.size by omega]
 ·rw [List.getElem?_take_eq_none (by omega),List.getElem?_eq_none (by omega)]
def cfK (x y:CV):Int:=cmpN x.1.2.2.key y.1.2.2.key
theorem ltK15 (x y:CV):ltOf cfK x y = decide (x.1.2.2.key < y.1.2.2.key):=by
 unfold ltOf cfK cmpN
 by_cases h1:x.1.2.2.key < y.1.2.2.key
 ·simp [h1]
 ·by_cases h2:y.1.2.2.key < x.1.2.2.key <;> simp [h1,h2]
theorem swoK:SWO (ltOf cfK) where
 irrefl x:=by rw [ltK15]; simp
 trans x y z h1 h2:=by rw [ltK15] at *; simp at *; omega
 ntrans x y z h1 h2:=by rw [ltK15] at *; simp at *; omega
theorem zqvp (W:World) (x y:CV):Calls Tryz.prog 99 #[.agg (encC x).toArray,.agg (encC y).toArray] W fun e w' => e = .returned (.int .i64 (cfK x y)) ∧ ∃ q os,w' = grow (W.drewN q) os:=by
 have H:=zh (fun w => zqnc w x.1.2.2.key y.1.2.2.key)
 show Calls Tryz.prog _ #[.agg #[.int .u64 x.1.2.2.key,.int .i64 x.1.2.2.cnt,x.1.1,x.1.2.1],.agg #[.int .u64 y.1.2.2.key,.int .i64 y.1.2.2.cnt,y.1.1,y.1.2.1]] W fun e w' => e = .returned (.int .i64 (cmpN x.1.2.2.key y.1.2.2.key)) ∧ ∃ q os,w' = grow (W.drewN q) os
 generalize cmpN x.1.2.2.key y.1.2.2.key = r at *;generalize x.1 = a at *;generalize y.1 = b at *;obtain ⟨a1,a2,a3⟩:=a;obtain ⟨b1,b2,b3⟩:=b;go_enter Tryz.func99,Tryz.ntmps99;go_wp2_with fail;refine (H.out _).mono ?_; rintro e w1 ⟨rfl,rfl⟩;go_wp2_with fail;go_ret;exact ⟨rfl,0,_,by rw [alloc_eq_grow,alloc_eq_grow,grow_grow]; rfl⟩
theorem zqt7 {α:Type} [Inhabited α] {d d':Array α} (h:PermIn 0 d.size d d'):d'.toList.Perm d.toList:=by
 have h3:=h.2.2;rw [← h.1] at h3;rw [show d'.extract 0 d'.size = d' from by simp] at h3
 rw [h.1,show d.extract 0 d.size = d from by simp] at h3
 exact h3
theorem zqt6 {α:Type} [Inhabited α] {lt:α → α → Bool} {d:Array α} (h:SortedIn lt 0 d.size d):d.toList.Pairwise fun a b => lt b a = false:=by
 rw [List.pairwise_iff_getElem];intro i j hi hj hij;have:=h i j (Nat.zero_le _) hij (by simpa using hj)
 have ei:i < d.size:=by simpa using hi
 have ej:j < d.size:=by simpa using hj
 rw [getElem!_pos d i ei,getElem!_pos d j ej] at this;simpa using this
theorem zqrw (w:World) (base:Nat) (v:Value) (l:List CV) (hv:w.ownsRow base 38 4 v l.length (cellsC (cvL l))) (hl:l.length < 4611686018427387904) :
  Calls Tryz.prog 98 #[v,.func (.func 99) #[] #[]] w fun e w' => e = .returned (.tuple #[]) ∧
   (∃ L:List CV,L.Perm l ∧ L.Pairwise (fun a b => a.1.2.2.key ≤ b.1.2.2.key) ∧ w'.ownsRow base 38 4 v L.length (cellsC (cvL L))) ∧ w.grownBy w' v.ownBlock:=by
 rcases hv.2 with ⟨rfl,he⟩ | ⟨g,cap,cur,rfl,hbase,hb,h1,h2,h3,h4⟩
 ·have e0:l = []:=by cases l with
   | nil => rfl
   | cons a l => simp at he
  subst e0;have h:=AnyF.slices_SortFunc_none (P:=Tryz.prog) (ρ:=zqgw) sortC none 0 (.func (.func 99) #[] #[]) w;refine Calls.mono (show Calls Tryz.prog 98 _ _ _ from h) ?_;rintro e w' ⟨rfl,rfl⟩;exact ⟨rfl,⟨[],List.Perm.refl _,List.Pairwise.nil,hv⟩,⟨rfl,rfl,rfl,Nat.le_refl _,fun _ _ _ => rfl⟩⟩
 ·have hsz:l.toArray.size = l.length:=by simp
  have hlc:(cellsC (cvL l)).length = l.length * 4:=by rw [zqco,zqcy]
  have hH:HoldsK encC 4 w g 0 l.toArray:=by
   unfold HoldsK;rw [zqi7];exact holdsC hb (by rw [hlc]; exact h4)
  have h:=AnyQ.slices_SortFunc (P:=Tryz.prog) (ρ:=zqgw) sortC 4 Tryz.isAgg38 Tryz.sizeOf38 encC (fun _ => rfl) (fun x v hv => by
   simp only [encC,rowC,List.mem_cons,List.not_mem_nil,or_false] at hv;rcases hv with rfl | rfl | rfl | rfl
   ·rfl
   ·rfl
   ·exact x.2.1
   ·exact x.2.2) cfK swoK 99 #[] g 0 cap l.toArray w (enters_of Tryz.func99 (by kernel_rfl) rfl) (fun m os dk hs x y => zqvp _ x y) hH (Array.getElem?_eq_some_iff.1 hb).1 (by rw [hsz]; exact hl)
  rw [hsz] at h;refine Calls.mono (show Calls Tryz.prog 98 _ _ _ from h) ?_;rintro e w' ⟨rfl,d',n,os,hp,hs,rfl⟩;have hp2:=zqt7 (d:=l.toArray) (d':=d') (by rw [hsz]; exact hp)
  have hl2:d'.toList.length = l.length:=by simpa using hp2.length_eq
  have hd:d'.size = l.length:=by simpa using hl2
  have hpr:=zqt6 (d:=d') (by rw [hd]; exact hs)
  have ef:flatK encC 4 d' = (cellsC (cvL d'.toList)).toArray:=by
   have:=zqi7 d'.toList;simpa using this
  have hlc2:(cellsC (cvL d'.toList)).length = l.length * 4:=by rw [zqco,zqcy,hl2]
  refine ⟨rfl,⟨d'.toList,by simpa using hp2,hpr.imp fun {a b} q => ?_,?_⟩,?_⟩
  ·rw [ltK15] at q;have:=of_decide_eq_false q;omega
  ·unfold sortWorldK putRowK;rw [ef,hl2];refine ⟨by rw [hlc2],.inr ⟨g,cap,_,rfl,hbase,heapC _ hb,h1,h2,by simp [putCells,h3],?_⟩⟩
   have:=takeC cur (cellsC (cvL d'.toList)) (by rw [hlc2,h3]; exact Nat.mul_le_mul_right _ h1)
   rw [hlc2] at this;exact this
  ·unfold sortWorldK putRowK;rw [ef];exact grownC _
end Go.Proofs.YtmnbljijnbhghaaGreatDoor
namespace Go.Proofs.YtmnbljijnbhghaaGreatDoor
set_option maxRecDepth 100000
open Go.RowKit Go.Maps
set_option linter.unusedVariables false
theorem zqjr:∀ {a b:List Ce},risingC a → risingC b → (∀ z,z ∈ a ↔ z ∈ b) → a = b
 | [],[],_,_,_ => rfl
 | [],y :: b,_,_,h => by have:=(h y).2 (List.mem_cons_self ..); cases this
 | x :: a,[],_,_,h => by have:=(h x).1 (List.mem_cons_self ..); cases this
 | x :: a,y :: b,ha,hb,h => by
  have e:x = y:=by
   rcases List.mem_cons.1 ((h x).1 (List.mem_cons_self ..)) with q | q
   ·exact q
   ·rcases List.mem_cons.1 ((h y).2 (List.mem_cons_self ..)) with q2 | q2
    ·exact q2.symm
    ·have h1:=zqaz hb x q;have h2:=zqaz ha y q2;omega
  subst e;rw [zqjr (zqbn ha) (zqbn hb) fun z => ?_]
  constructor
  ·intro hz;rcases List.mem_cons.1 ((h z).1 (List.mem_cons_of_mem _ hz)) with rfl | q
   ·have:=zqaz ha z hz; omega
   ·exact q
  ·intro hz;rcases List.mem_cons.1 ((h z).2 (List.mem_cons_of_mem _ hz)) with rfl | q
   ·have:=zqaz hb z hz; omega
   ·exact q
def Got (ms:List Ce) (left:Lit → Bool) (cs:List Ce):Prop:=cs.Pairwise (fun a b => a.key ≠ b.key) ∧ ∀ c,c ∈ cs ↔ (c ∈ ms ∧ left (keyV c.key) = false)
theorem zqte (a b:Int):(keyV a).sameKey (keyV b) = decide (a = b):=by
 unfold keyV
 by_cases h:a = b
 ·subst h; simp [Lit.sameKey]
 ·rw [decide_eq_false h];simp [Lit.sameKey];omega
theorem zqwk {ms cs:List Ce} {left:Lit → Bool} {c:Ce} (hr:risingC ms) (h:Got ms left cs) (hc:c ∈ ms) (hl:left (keyV c.key) = true):Got ms (fun z => left z && !z.sameKey (keyV c.key)) (cs ++ [c]):=by
 refine ⟨List.pairwise_append.2 ⟨h.1,List.pairwise_singleton _ _,fun a ha b hb => ?_⟩,fun z => ?_⟩
 ·obtain rfl:b = c:=by simpa using hb
  intro e;have:=((h.2 a).1 ha).2;rw [e,hl] at this;cases this
 ·rw [List.mem_append,h.2,List.mem_singleton];show _ ↔ z ∈ ms ∧ (left (keyV z.key) && !(keyV z.key).sameKey (keyV c.key)) = false
  rw [zqte]
  constructor
  ·rintro (⟨q1,q2⟩ | rfl)
   ·exact ⟨q1,by rw [q2]; rfl⟩
   ·exact ⟨hc,by simp⟩
  ·rintro ⟨q1,q2⟩
   by_cases e:z.key = c.key
   ·right;have h1:=zqia hr q1;rw [e,zqia hr hc] at h1;exact (Option.some.inj h1).symm
   ·left;rw [decide_eq_false e] at q2;exact ⟨q1,by simpa using q2⟩
theorem zqyn {ms cs L:List Ce} {left:Lit → Bool} (hr:risingC ms) (h:Got ms left cs) (hl:∀ kl,left kl = false) (hp:L.Perm cs) (hs:L.Pairwise fun a b => a.key ≤ b.key):L = ms:=by
 refine zqjr ?_ hr fun z => ?_
 ·have h1:L.Pairwise (fun a b => a.key ≠ b.key):=(hp.pairwise_iff (fun {a b} q e => q e.symm)).2 h.1
  exact (List.pairwise_and_iff.2 ⟨hs,h1⟩).imp fun {a b} q => by omega
 ·rw [hp.mem_iff,h.2];exact ⟨fun q => q.1,fun q => ⟨q,hl _⟩⟩
theorem zqm0 {B b:Nat} {w w':World} {o:Obj} (hB:B ≤ w.heap.size) (hb:B ≤ b) (hm:w.heap[b]? = some o) (hno:∀ cs T f,o ≠ .cells cs T f) (hg:w.grownBy w' (some b)):Keeps B w w' :=
 ⟨⟨hg.os,hg.tape,hg.output,hg.size,fun k hk => hg.block k (by omega) (fun e => by injection e with e; omega)⟩,fun k cs T h _ => (hg.block k (Array.getElem?_eq_some_iff.1 h).1 (fun e => by
  injection e with e;subst e;rw [hm] at h;injection h with h;exact absurd h (hno _ _ _))).trans h⟩
theorem zqnj {B E sz n b:Nat} {w:World} {v:Value} {xs:List Value} {o:Obj} (h:w.ownsRow B E sz v n xs) (hm:w.heap[b]? = some o) (hno:∀ cs T f,o ≠ .cells cs T f):some b ≠ v.ownBlock:=by
 intro e;rcases h.2 with ⟨rfl,-⟩ | ⟨g,cap,cur,rfl,-,h3,-⟩
 ·simp [Value.ownBlock] at e
 ·have e2:b = g:=by simpa [Value.ownBlock] using e
  subst e2;rw [hm] at h3;injection h3 with h3;exact hno _ _ _ h3
theorem CsRow.other {B b:Nat} {w w':World} {v:Value} {ps:List (Value × Value × Ce)} {o:Obj} (h:CsRow B w v ps) (hB:B ≤ w.heap.size) (hb:B ≤ b) (hm:w.heap[b]? = some o) (hno:∀ cs T f,o ≠ .cells cs T f) (hg:w.grownBy w' (some b)):CsRow B w' v ps:=by
 have k:=zqm0 hB hb hm hno hg;have hne:=zqnj h.o hm hno;refine ⟨h.o.kept hg ?_,fun p hp => (h.m p hp).keep k⟩
 first
  | exact .inr (fun e => hne e.symm)
  | exact fun e => hne e.symm
  | exact hne
theorem zqgq {w:World} {P:Program} {k:TypeId} {R:Value → Option (DataW Value × List MemPlace)} {b r n:Nat} {D:DataW Value} {left:Lit → Bool} {cnt:Nat} (h:w.ranges P k R b r n D left cnt) :
  (∃ o,w.heap[b]? = some o ∧ ∀ cs T f,o ≠ .cells cs T f) ∧ ∃ o,w.heap[r]? = some o ∧ ∀ cs T f,o ≠ .cells cs T f:=by
 obtain ⟨es,clock,since,seen,c0,h1,-,-,-,h2,-⟩:=h;exact ⟨⟨_,h1,fun _ _ _ e => by cases e⟩,_,h2,fun _ _ _ e => by cases e⟩
section
variable {P : Program} (w : World) {ops : Array Oper} {rest : List Oper} {o : Oper} {a : Act} {Q : Exit → Act → World → Prop}
theorem zqhb (hg:o.guard = none) (it:Operand) (hop:o.op = Op.next it false) (b r n:Nat) (D:DataW Value) (left:Lit → Bool) (cnt:Nat)
  (hit:a.eval it = .pointer (some ⟨r,0,none⟩)) (h:w.ranges Tryz.prog 34 heldE b r n D left cnt)
  (hsh:∀ x k m I N,(∀ zd,D.atKey (keyV x) zd = .held (.agg #[.int .u64 k,.int .i64 m,I,N])) → (∃ p l c,I = .slice p l c) ∧ ∃ p l c,N = .slice p l c)
  (hDone:cnt = 0 → (∀ kl,left kl = false) → wpList Tryz.prog ops Q rest (a.put o.dst (.tuple #[.bool false])) w)
  (hMore:∀ (x k m:Int) (p1:Option Addr) (l1 c1:Nat) (p2:Option Addr) (l2 c2:Nat) (w':World) (cnt':Nat),left (keyV x) = true → (∀ zd,D.atKey (keyV x) zd = .held (.agg #[.int .u64 k,.int .i64 m,.slice p1 l1 c1,.slice p2 l2 c2])) → w'.ranges Tryz.prog 34 heldE b r n D (fun z => left z && !z.sameKey (keyV x)) cnt' → cnt' < cnt →
   w.grownBy w' (some r) → w'.heap.size = w.heap.size → (Instr.entry (.pointer (some ⟨r,0,none⟩))).run Tryz.prog w' = .ok (.tuple #[.int .u64 x,.agg #[.int .u64 k,.int .i64 m,.slice p1 l1 c1,.slice p2 l2 c2]]) w' → wpList Tryz.prog ops Q rest (a.put o.dst (.tuple #[.bool true,.int .u64 x,.agg #[.int .u64 k,.int .i64 m,.slice p1 l1 c1,.slice p2 l2 c2]])) w') :
  wpList Tryz.prog ops Q (o :: rest) a w :=
 wpList_next_ranges w hg it hop 34 lawU15 heldE (Value.int .u64) rowV (fun key kl hkey => by obtain ⟨x,rfl,_⟩:=Maps.keyOf_int_inv Tryz.underlying34 hkey; exact ⟨x,rfl⟩) (fun v y hv => by obtain ⟨q,rfl,_⟩:=zqen hv; exact ⟨q,rfl⟩)
  b r n D left cnt hit h hDone (fun x c kl y w' cnt' hkey hlk hv hat hrg hlt hgr hsz hen => by
   obtain ⟨x',ex,rfl,hwx⟩:=Maps.keyOf_int_inv Tryz.underlying34 hkey;cases ex
   obtain ⟨q,eq,rfl⟩:=zqen hv;obtain ⟨k,m,I,N⟩:=c;have hat2:∀ zd,D.atKey (keyV x) zd = .held (.agg #[.int .u64 k,.int .i64 m,I,N]):=fun zd => by rw [show Lit.int .u64 x = keyV x from rfl] at hat; rw [hat,← eq]
   obtain ⟨⟨p1,l1,c1,rfl⟩,p2,l2,c2,rfl⟩:=hsh x k m I N hat2;exact hMore x k m p1 l1 c1 p2 l2 c2 w' cnt' hlk hat2 hrg hlt hgr hsz hen)
end
end Go.Proofs.YtmnbljijnbhghaaGreatDoor
namespace Go.Proofs.YtmnbljijnbhghaaGreatDoor
set_option maxRecDepth 100000
open Go.RowKit Go.Maps
set_option linter.unusedVariables false
def ListP (B:Nat) (w:World) (ms:List Ce) (e:Ending) (w':World):Prop:=∃ r ps,e = .returned r ∧ CsRow B w' r ps ∧ ps.map cellOf = ms ∧ Below B w w'
theorem zqiv {w w':World} (hg:w.grownBy w' none):Below w.heap.size w w':=⟨hg.os,hg.tape,hg.output,hg.size,fun i hi => hg.block i hi (by simp)⟩
set_option maxHeartbeats 8000000 in
theorem zqlj (B:Nat) (w:World) (b:Nat) (ms:List Ce) (h:CMap B w b ms) (hB:B ≤ w.heap.size) (hl:ms.length ≤ 100000) :
  Calls Tryz.prog 50 #[.map (some b)] w (ListP B w ms):=by
 obtain ⟨i0,hi,hz0,hz1,hz2⟩:=info_parts Tryz.infoCell;obtain ⟨D,hown,hsz,hhas,hat⟩:=h.m;have hblt:=hown.lt;have HR:=zh h.r;have HG:=zh (show Got ms (Maps.has D) [] from ⟨List.Pairwise.nil,fun c => ⟨fun q => (by cases q),fun ⟨q1,q2⟩ => by rw [hhas,zqia h.r q1] at q2; cases q2⟩⟩)
 have HN:=zh (fun (w1:World) (x k m:Int) (I N:Value) (hb1:Keeps B w w1) (hat2:∀ zd,D.atKey (keyV x) zd = .held (.agg #[.int .u64 k,.int .i64 m,I,N])) => show ∃ c,c ∈ ms ∧ c.key = x ∧ rowC (I,N,c) = [.int .u64 k,.int .i64 m,I,N] ∧ CeS B w1 I N c from by
  have h1:=has_true_of_atKey hat2;rw [hhas,zqfx] at h1;obtain ⟨c,hc,rfl⟩:=h1;obtain ⟨I',N',h5,h6⟩:=hat c hc;have h7:=(h5 (.lit (.bool true))).symm.trans (hat2 (.lit (.bool true)));injection h7 with h7;injection h7 with h7;simp only [Array.mk.injEq,List.cons.injEq,Value.int.injEq,true_and,and_true] at h7;obtain ⟨e1,e2,e3,e4⟩:=h7;subst e3 e4;exact ⟨c,hc,rfl,by simp [rowC,e1,e2],h6.keep hb1⟩)
 have HSh:=zh (show ∀ x k m I N,(∀ zd,D.atKey (keyV x) zd = .held (.agg #[.int .u64 k,.int .i64 m,I,N])) → (∃ p l c,I = .slice p l c) ∧ ∃ p l c,N = .slice p l c from fun x k m I N h2 => by
  obtain ⟨c,hc,-,hrow,hs⟩:=HN.out w x k m I N (Keeps.refl _ _) h2;obtain ⟨⟨p1,c1,e1⟩,p2,c2,e2⟩:=hs.mem.slices;exact ⟨⟨_,_,_,e1⟩,_,_,_,e2⟩)
 have HE:=zh (fun (wr:World) (a0:Option Addr) (k0:Nat) (left:Lit → Bool) (ps:List (Value × Value × Ce)) (hl0:∀ kl,left kl = false) (hln:ps.length ≤ ms.length) (hRw:CsRow B wr (.slice a0 ps.length k0) ps) (hGt:Got ms left (ps.map cellOf)) (hK:Keeps B w wr) =>
  show Calls Tryz.prog 98 #[.slice a0 ps.length k0,.func (.func 99) #[] #[]] wr fun e w' => e = .returned (.tuple #[]) ∧ ∃ ps',CsRow B w' (.slice a0 ps.length k0) ps' ∧ ps'.map cellOf = ms ∧ Below B w w' from by
   obtain ⟨l,hcl⟩:=zqpk fun p hp => (hRw.m p hp).mem.ones
   have hln2:ps.length = l.length:=by rw [← hcl,zqcy]
   have ho:=hRw.o;rw [hln2,← hcl] at ho;rw [hln2];refine (zqrw wr B _ l ho (by omega)).mono ?_
   rintro e w2 ⟨rfl,⟨L,hp,hs,ho2⟩,hg⟩;have hk2:Keeps B wr w2:=zqhn ho (Nat.le_refl _) (Nat.le_trans hB hK.b.size) zqic hg;refine ⟨rfl,cvL L,⟨by rw [zqcy,← hp.length_eq]; have:=ho2; rwa [hp.length_eq] at this ⊢,fun p hp2 => ?_⟩,?_,(hK.trans hk2).b⟩
   ·refine (hRw.m p ?_).keep hk2;rw [← hcl];exact (hp.map Subtype.val).mem_iff.1 hp2
   ·refine zqyn HR.out hGt hl0 ?_ ?_
    ·rw [← hcl];exact (hp.map Subtype.val).map cellOf
    ·exact List.pairwise_map.2 (List.pairwise_map.2 hs))
 unfold ListP;clear h hhas hat;go_enter Tryz.func50,Tryz.ntmps50;go_wp2_with (first
  | (at_len; refine wpList_len_own _ rfl _ 81 rfl 34 38 Tryz.underlying81 _ b ms.length D rfl hown ?_; rw [hsz])
  | (at_make; refine wpList_make_own _ rfl _ _ 28 rfl B 38 i0 CZ 4 Tryz.underlying28 hi hz0 hz1 .i64 .i64 _ ms.length rfl rfl rfl (by rw [hz2]; omega) (by unfold maxLen; omega) hB ?_; intro w1 hm1 hg1; have hown1:=hown.kept hg1 (by simp))
  | (at_range; refine wpList_range_own _ rfl _ 81 rfl 34 38 lawU15 Tryz.underlying81 _ b ms.length _ rfl hown1 ?_; intro w2 hrg0 hg0 hs0)
  | go_in)
 go_frame;have hB1:B ≤ w1.heap.size:=Nat.le_trans hB hg1.size;have HW2:=zh (zqaa (zqiv hg1) (zqiv hg0));have hBR:B ≤ w1.heap.size:=hB1;have HR0:=zh (show CsRow B w2 (.slice (some ⟨w.heap.size,0,none⟩) 0 ms.length) [] from ⟨hm1.kept hg0 (.inr (by simp [Value.ownBlock])),fun p hp => by cases hp⟩)
 have HK2:=zh (show Keeps B w w2 from zqag hB HW2.out);rw [hsz] at hrg0;have hb1:b < w1.heap.size:=Nat.lt_of_lt_of_le hblt hg1.size;clear hm1 hg1 hown1 hs0 hg0 hown;generalize w1.heap.size = R at *;go_loopw [3] (fun v wr => ∃ (left:Lit → Bool) (cnt:Nat) (ps:List (Value × Value × Ce)),wr.ranges Tryz.prog 34 heldE b R ms.length D left cnt ∧ ps.length + cnt ≤ ms.length ∧ (∃ a k,v = .slice a ps.length k) ∧
   Hid (CsRow B wr v ps) ∧ Hid (Got ms left (ps.map cellOf)) ∧ Hid (Keeps B w wr))
  (fun _ wr => wr.rangeLeft b R)
 case atStart => exact ⟨_,_,[],hrg0,by simp,⟨_,_,rfl⟩,HR0,HG,HK2⟩
 case round =>
  obtain ⟨left,cnt,ps,hrg,hcs,⟨a0,k0,rfl⟩,HRw,HGt,HK⟩:=hrel;clear HW2 HR0 HK2 hrg0;go_wp2_with (first
   | (at_next; refine zqhb _ rfl _ rfl b R ms.length D _ _ rfl hrg HSh.out ?_ ?_)
   | go_in)
  ·intro hc0 hl0;have HE2:=zh (HE.out wr a0 k0 left ps hl0 (by omega) HRw.out HGt.out HK.out)
   clear HE HN HSh HRw HGt HK hrg hl0;go_wp2_with fail;refine HE2.out.mono ?_; rintro e w3 ⟨rfl,ps',hr3,hm3,hb3⟩;have HF:=zh (And.intro hr3 (And.intro hm3 hb3));clear hr3 hm3 hb3;go_wp2_with fail;go_ret;exact ⟨_,ps',rfl,HF.out.1,HF.out.2.1,HF.out.2.2⟩
  ·intro x k m p1 l1 c1 p2 l2 c2 w1 cnt1 hlk hat2 hrg1 hlt hg1 hs1 hen;have hBr:B ≤ wr.heap.size:=Nat.le_trans hB HK.out.b.size;obtain ⟨-,oR,hmR,hnR⟩:=zqgq hrg;have hk1:Keeps B wr w1:=zqm0 hBr hBR hmR hnR hg1;have HR1:=zh (HRw.out.other hBr hBR hmR hnR hg1);have HK1:=zh (HK.out.trans hk1);obtain ⟨c,hc,hcx,hrow,hcs⟩:=HN.out w1 x k m _ _ HK1.out hat2;have HG1:=zh (zqwk HR.out HGt.out hc (by rw [hcx]; exact hlk))
   rw [hcx] at HG1;have HC:=zh hcs;have HRow:=zh hrow;have HQ:=zh (And.intro hrg hrg1);have hBr1:B ≤ w1.heap.size:=by omega
   have HS1:=zh hs1;have hBw1:B ≤ (w1.alloc (.cells #[.int .u64 k,.int .i64 m,.slice p1 l1 c1,.slice p2 l2 c2] 38)).heap.size:=by simp; omega
   have hBw2:B ≤ ((w1.alloc (.cells #[.int .u64 k,.int .i64 m,.slice p1 l1 c1,.slice p2 l2 c2] 38)).alloc (.cells #[.int .u64 k,.int .i64 m,.slice p1 l1 c1,.slice p2 l2 c2] 38)).heap.size:=by simp; omega
   have HNw:=zh (show NewsAt ((w1.alloc (.cells #[.int .u64 k,.int .i64 m,.slice p1 l1 c1,.slice p2 l2 c2] 38)).alloc (.cells #[.int .u64 k,.int .i64 m,.slice p1 l1 c1,.slice p2 l2 c2] 38)) (.slice (some ⟨w1.heap.size + 1,0,none⟩) 1 1) 1 [.int .u64 k,.int .i64 m,.slice p1 l1 c1,.slice p2 l2 c2] from by
    have e:(w1.alloc (.cells #[.int .u64 k,.int .i64 m,.slice p1 l1 c1,.slice p2 l2 c2] 38)).heap.size = w1.heap.size + 1:=by simp
    rw [← e];exact zqtu _ (.slice p1 l1 c1,.slice p2 l2 c2,(⟨k,m,[],[]⟩:Ce)))
   clear hrg hrg1 hmR hnR hk1 hg1 hcs hc hrow hat2 hlk HGt HRw HK HE HN HSh hs1;go_wp2_with (first
    | (at_builtin; go_loud (refine zqbd _ (by rfl) _ _ 28 rfl B 38 i0 CZ 4 64 Tryz.underlying28 hi hz0 hz1 hz2 zqo5 (by decide) _ _ ps.length 1 (cellsC ps) [.int .u64 k,.int .i64 m,.slice p1 l1 c1,.slice p2 l2 c2] rfl rfl ((HR1.out.below hBr1 (zqab _ _)).below hBw1 (zqab _ _)).o HNw.out rfl (by intro u hu; simp only [List.mem_cons,List.not_mem_nil,or_false] at hu; rcases hu with rfl | rfl | rfl | rfl <;> rfl) (by unfold maxLen; omega) (by omega) hBw2 ?_; intro v4 w4 hown hgrow)))
   obtain ⟨a4,k4,rfl⟩:=zqae hown;have hR1:=HR1.out.below hBr1 (zqab w1 (.cells #[.int .u64 k,.int .i64 m,.slice p1 l1 c1,.slice p2 l2 c2] 38));have hR2:=hR1.below hBw1 (zqab _ (.cells #[.int .u64 k,.int .i64 m,.slice p1 l1 c1,.slice p2 l2 c2] 38));have hbb:=zqaa (zqab w1 (.cells #[.int .u64 k,.int .i64 m,.slice p1 l1 c1,.slice p2 l2 c2] 38)) (zqab (w1.alloc (.cells #[.int .u64 k,.int .i64 m,.slice p1 l1 c1,.slice p2 l2 c2] 38)) (.cells #[.int .u64 k,.int .i64 m,.slice p1 l1 c1,.slice p2 l2 c2] 38));have hkb:=zqag hBr1 hbb;have hq2:=(HQ.out.2.alloc (.cells #[.int .u64 k,.int .i64 m,.slice p1 l1 c1,.slice p2 l2 c2] 38)).alloc (.cells #[.int .u64 k,.int .i64 m,.slice p1 l1 c1,.slice p2 l2 c2] 38);obtain ⟨⟨o1,m1,n1⟩,o2,m2,n2⟩:=zqgq hq2;have hq3:=hq2.kept hgrow (zqnj hR2.o m1 n1) (zqnj hR2.o m2 n2);have hk3:=hR2.keeps hBw2 hgrow;have hrow2:cellsC ps ++ [.int .u64 k,.int .i64 m,.slice p1 l1 c1,.slice p2 l2 c2] = cellsC (ps ++ [(.slice p1 l1 c1,.slice p2 l2 c2,c)]):=by
    rw [zqdk,← HRow.out]; simp [cellsC]
   rw [hrow2] at hown;refine ⟨⟨_,cnt1,ps ++ [(.slice p1 l1 c1,.slice p2 l2 c2,c)],hq3,by simp; omega,⟨a4,k4,by simp⟩,zh ⟨by rw [List.length_append]; exact hown,fun p hp => ?_⟩,zh ?_,zh ((HK1.out.trans hkb).trans hk3)⟩,?_⟩
   ·rcases List.mem_append.1 hp with hp | hp
    ·exact (hR2.m p hp).keep hk3
    ·obtain rfl:p = (.slice p1 l1 c1,.slice p2 l2 c2,c):=by simpa using hp
     exact (HC.out.keep hkb).keep hk3
   ·rw [List.map_append]; exact HG1.out
   ·rw [hq3.left_eq,HQ.out.1.left_eq]; exact hlt
end Go.Proofs.YtmnbljijnbhghaaGreatDoor
