/- Contracts that the law leans on: Exq Exs Ext Exy Exjo. -/
import Derived.Deep.RegionLaw
import Derived.Deep.RegionHeld3
import Derived.Deep.RegionWith
import Derived.Deep.DrawnRows
import Derived.Test.YtmnbljijnbhghaaGreatDoorPt02
import Derived.Test.YtmnbljijnbhghaaGreatDoorPt13
import Derived.Test.YtmnbljijnbhghaaGreatDoorPt19
namespace Go.Proofs.YtmnbljijnbhghaaGreatDoor
set_option maxRecDepth 100000
open Go.RowKit
set_option linter.unusedVariables false
theorem zqrz (w:World) (a b:Obj):((w.alloc a).alloc b).heap[w.heap.size]? = some a ∧ ((w.alloc a).alloc b).heap[w.heap.size + 1]? = some b:=by
 have h0:=zqaf (heap_alloc_new w a) (zqab _ b);have h1:=heap_alloc_new (w.alloc a) b;exact ⟨h0,by simpa using h1⟩
set_option maxRecDepth 100000
open Go.RowKit
set_option linter.unusedVariables false
end Go.Proofs.YtmnbljijnbhghaaGreatDoor
namespace Go.Proofs.YtmnbljijnbhghaaGreatDoor
set_option maxRecDepth 100000
open Go.RowKit
set_option linter.unusedVariables false
def SumBox (w:World) (K:Nat) (f:Nat) (t:Int):Prop:=∃ nb p l c,w.heap[K]? = some (.cells #[.bool (bitB f 0),.bool (bitB f 1),.bool (bitB f 2),.bool (bitB f 3),.bool (bitB f 4),.bool nb,.slice p l c] 117 (0,0)) ∧ IsNum w (.agg #[.bool nb,.slice p l c]) t ∧ Good f t
theorem SumBox.below {w w':World} {K f:Nat} {t:Int} (h:SumBox w K f t) (hb:Below w.heap.size w w'):SumBox w' K f t:=by
 obtain ⟨nb,p,l,c,h1,h2,h3⟩:=h;exact ⟨nb,p,l,c,zqaf h1 hb,h2.below hb,h3⟩
theorem SumBox.lt {w:World} {K f:Nat} {t:Int} (h:SumBox w K f t):K < w.heap.size:=by
 obtain ⟨nb,p,l,c,h1,-⟩:=h;exact (Array.getElem?_eq_some_iff.1 h1).1
theorem SumBox.put {w:World} {K f g:Nat} {t u:Int} {nb:Bool} {p:Option Addr} {l c:Nat} (h:SumBox w K f t) (hn:IsNum w (.agg #[.bool nb,.slice p l c]) u) (hg:Good g u) :
  SumBox (((((((w.setCell ⟨K,0,none⟩ (.bool (bitB g 0))).setCell ⟨K,1,none⟩ (.bool (bitB g 1))).setCell ⟨K,2,none⟩ (.bool (bitB g 2))).setCell ⟨K,3,none⟩ (.bool (bitB g 3))).setCell ⟨K,4,none⟩ (.bool (bitB g 4))).setCell ⟨K,5,none⟩ (.bool nb)).setCell ⟨K,6,none⟩ (.slice p l c)) K g u:=by
 obtain ⟨nb0,p0,l0,c0,h1,-,-⟩:=h;exact ⟨nb,p,l,c,set7 h1,hn.grown h1 (by decide) (grown7 _ _ _ _ _ _ _ _ _),hg⟩
theorem SumBox.grown {w w':World} {M K f:Nat} {t:Int} {cur:Array Value} {fr:Nat × Nat} (h:SumBox w M f t) (hp:w.heap[K]? = some (.cells cur 117 fr)) (hne:M ≠ K) (hg:w.grownBy w' (some K)):SumBox w' M f t:=by
 obtain ⟨nb,p,l,c,h1,h2,h3⟩:=h;exact ⟨nb,p,l,c,(hg.block _ (Array.getElem?_eq_some_iff.1 h1).1 (by simpa using hne)).trans h1,h2.grown hp (by decide) hg,h3⟩
set_option maxRecDepth 100000
open Go.RowKit
set_option linter.unusedVariables false
end Go.Proofs.YtmnbljijnbhghaaGreatDoor
namespace Go.Proofs.YtmnbljijnbhghaaGreatDoor
set_option maxRecDepth 100000
open Go.RowKit
set_option linter.unusedVariables false
def flagV (b:Bool) (n:Int):Int:=if b then n else 0
theorem zqa5 (b:Bool) (n:Int) (w:World):Calls Tryz.prog 137 #[.bool b,.int .i64 n] w fun e w' => e = .returned (.int .i64 (flagV b n)) ∧ w = w':=by
 unfold flagV;cases b
 all_goals
  go_enter Tryz.func137,Tryz.ntmps137;go_wp2_with fail;go_ret;exact ⟨rfl,rfl⟩
theorem zqwh:∀ f:Nat,f < 32 → flagV (bitB f 0) 1 + flagV (bitB f 1) 2 + flagV (bitB f 2) 4 + flagV (bitB f 3) 8 + flagV (bitB f 4) 16 = (f:Int):=by decide +kernel
theorem zqbl (b:Bool) {n:Int} (h:0 ≤ n):0 ≤ flagV b n ∧ flagV b n ≤ n:=by unfold flagV; cases b <;> simp <;> omega
theorem sized1000 {z K M:Nat} (hz:z < 2 ^ K) (hK:K ≤ 9 * M):Sized M (z:Int):=by
 have h1:2 ^ K ≤ (2 ^ 9) ^ M:=by rw [← Nat.pow_mul]; exact Nat.pow_le_pow_right (by decide) hK
 have h2:(2 ^ 9) ^ M ≤ 1000 ^ M:=Nat.pow_le_pow_left (by decide) M
 have h3:((1000 ^ M:Nat):Int) = (1000:Int) ^ M:=by simp
 unfold Sized;omega
abbrev SixB (N:Nat) (b0 b1 b2 b3 b4 b5:Bool) (w:World):Prop:=w.cell? ⟨N,0,none⟩ = some (.bool b0) ∧ w.cell? ⟨N,1,none⟩ = some (.bool b1) ∧ w.cell? ⟨N,2,none⟩ = some (.bool b2) ∧ w.cell? ⟨N,3,none⟩ = some (.bool b3) ∧ w.cell? ⟨N,4,none⟩ = some (.bool b4) ∧ w.cell? ⟨N,5,none⟩ = some (.bool b5)
theorem SixB.call {N:Nat} {b0 b1 b2 b3 b4 b5:Bool} {w w':World} (h:SixB N b0 b1 b2 b3 b4 b5 w) (hb:Below w.heap.size w w'):SixB N b0 b1 b2 b3 b4 b5 w' :=
 ⟨cell_later hb h.1,cell_later hb h.2.1,cell_later hb h.2.2.1,cell_later hb h.2.2.2.1,cell_later hb h.2.2.2.2.1,cell_later hb h.2.2.2.2.2⟩
theorem SixB.alloc {N:Nat} {b0 b1 b2 b3 b4 b5:Bool} {w:World} {o:Obj} (h:SixB N b0 b1 b2 b3 b4 b5 w):SixB N b0 b1 b2 b3 b4 b5 (w.alloc o):=h.call (zqab w o)
theorem BOwn5.mono {w:World} {B B':Nat} {v:Value} {l:List Int} (h:BOwn5 w B v l) (hb:B' ≤ B):BOwn5 w B' v l:=by
 obtain ⟨h1,h2⟩:=h;refine ⟨h1,?_⟩;rcases h2 with h2 | ⟨g,cap,cur,e,h3,h4⟩
 ·exact .inl h2
 ·exact .inr ⟨g,cap,cur,e,Nat.le_trans hb h3,h4⟩
theorem zqs9 (w:World) (x y z t:Int):Ints .u8 (w.alloc (.cells #[.int .u8 x,.int .u8 y,.int .u8 z,.int .u8 t] 5)).drew (.slice (some ⟨w.heap.size,0,none⟩) 4 4) [x,y,z,t] :=
 Ints.own (B:=w.heap.size) (E:=5) (zs:=[x,y,z,t]) (⟨by simp,.inr ⟨w.heap.size,4,_,rfl,Nat.le_refl _,heap_alloc_new w _,by simp,by decide,by simp,by simp⟩⟩:(w.alloc (.cells #[.int .u8 x,.int .u8 y,.int .u8 z,.int .u8 t] 5)).drew.ownsRow w.heap.size 5 1 (.slice (some ⟨w.heap.size,0,none⟩) 4 4) 4 [.int .u8 x,.int .u8 y,.int .u8 z,.int .u8 t])
theorem zqt2 {B:Nat} {w wr w1:World} {o v':Value} {l m:List Int} {ob:Obj} (hB:B ≤ wr.heap.size) (hnx:Below B w wr) (hown:BOwn5 wr B o l)
  (hown':w1.ownsRow B 5 1 v' (l ++ m).length ((l ++ m).map (Value.int .u8))) (hg:(wr.alloc ob).drew.grownBy w1 o.ownBlock):BOwn5 w1 B v' (l ++ m) ∧ Below B w w1:=by
 refine ⟨hown',(hnx.alloc hB ob).grown (show (wr.alloc ob).grownBy w1 o.ownBlock from ⟨hg.os,hg.tape,hg.output,hg.size,hg.block⟩) (by simp; omega) (fun k hk => (hown.lt k hk).1)⟩
theorem SixB.allocDrew {N:Nat} {b0 b1 b2 b3 b4 b5:Bool} {w:World} {o:Obj} (h:SixB N b0 b1 b2 b3 b4 b5 w):SixB N b0 b1 b2 b3 b4 b5 (w.alloc o).drew:=h.alloc.call (Below.refl _ _).drew
set_option maxHeartbeats 8000000 in
theorem zqox (w:World) (v:Value) (f:Nat) (t:Int) (l:List Int) (h:SumV w v f t) (hl:IsEnc f t l) :
  Calls Tryz.prog 81 #[v] w (BytesP5 w l):=by
 obtain ⟨nb,p,q,c,rfl,hnm,hg⟩:=h;have hneg:=zqyx hnm;obtain ⟨a,d1,d2,d3,hn70,hl⟩:=hl;obtain ⟨K,hK⟩:∃ K:Nat,K = 2240:=⟨_,rfl⟩
 have hz:t.natAbs < 2 ^ K:=zqdw (by have:=hg.2.2; unfold Fits at this; omega)
 have HO:=zh (fun w1 (hb:Below w.heap.size w w1) => zqy9 (.agg #[.bool false,.slice p q c]) (t.natAbs:Int) w1 ((zqkd hnm).below hb) (by omega) (sized1000 hz (by omega)))
 have HUq:=zh (fun (w1:World) u (hu:IsNat w1 u (t.natAbs:Int)) => show WList w1 u a by obtain ⟨a',k1,k2,k3⟩:=hu; rw [zqbb d1 k1.2.1 d2 k2 (by omega)]; exact k1)
 have hlw:=zqc1 a;have HZ:=zh (zqbp a);have HNe:=zh (zqg4 a);have HX:=zh (fun k => d1.getD k)
 unfold encB at hl;have hfs:=zqwh f hg.1;have hf:=hg.1;have HTB:=zh (zqef a);have HTS:=zh (zqck a);rw [← hneg] at hl;generalize hFF:(f:Int) + (if nb = true then 32 else 0) = FF at hl
 have hwr:IntKind.u8.wrap (flagV (bitB f 0) 1 + flagV (bitB f 1) 2 + flagV (bitB f 2) 4 + flagV (bitB f 3) 8 + flagV (bitB f 4) 16 + flagV nb 32) = FF:=by
  rw [hfs,← hFF];unfold flagV;cases nb <;> simp [IntKind.wrap,IntKind.bits,IntKind.signed] <;> omega
 have y0:=zqbl (bitB f 0) (n:=1) (by decide)
 have y1:=zqbl (bitB f 1) (n:=2) (by decide)
 have y2:=zqbl (bitB f 2) (n:=4) (by decide)
 have y3:=zqbl (bitB f 3) (n:=8) (by decide)
 have y4:=zqbl (bitB f 4) (n:=16) (by decide)
 have y5:=zqbl nb (n:=32) (by decide)
 have s1:IntKind.i64.wrap (flagV (bitB f 0) 1 + flagV (bitB f 1) 2) = flagV (bitB f 0) 1 + flagV (bitB f 1) 2:=IntWalk.i64_in _ (by omega)
 have s2:IntKind.i64.wrap (flagV (bitB f 0) 1 + flagV (bitB f 1) 2 + flagV (bitB f 2) 4) = flagV (bitB f 0) 1 + flagV (bitB f 1) 2 + flagV (bitB f 2) 4:=IntWalk.i64_in _ (by omega)
 have s3:IntKind.i64.wrap (flagV (bitB f 0) 1 + flagV (bitB f 1) 2 + flagV (bitB f 2) 4 + flagV (bitB f 3) 8) = flagV (bitB f 0) 1 + flagV (bitB f 1) 2 + flagV (bitB f 2) 4 + flagV (bitB f 3) 8:=IntWalk.i64_in _ (by omega)
 have s4:IntKind.i64.wrap (flagV (bitB f 0) 1 + flagV (bitB f 1) 2 + flagV (bitB f 2) 4 + flagV (bitB f 3) 8 + flagV (bitB f 4) 16) = flagV (bitB f 0) 1 + flagV (bitB f 1) 2 + flagV (bitB f 2) 4 + flagV (bitB f 3) 8 + flagV (bitB f 4) 16:=IntWalk.i64_in _ (by omega)
 have s5:IntKind.i64.wrap (flagV (bitB f 0) 1 + flagV (bitB f 1) 2 + flagV (bitB f 2) 4 + flagV (bitB f 3) 8 + flagV (bitB f 4) 16 + flagV nb 32) = flagV (bitB f 0) 1 + flagV (bitB f 1) 2 + flagV (bitB f 2) 4 + flagV (bitB f 3) 8 + flagV (bitB f 4) 16 + flagV nb 32:=IntWalk.i64_in _ (by omega)
 have HSm:=zh (And.intro s1 (And.intro s2 (And.intro s3 (And.intro s4 (And.intro s5 hwr)))));have hW0:=heap_alloc_new w (.cells #[.bool (bitB f 0),.bool (bitB f 1),.bool (bitB f 2),.bool (bitB f 3),.bool (bitB f 4),.bool nb,.slice p q c] 117);have hB0:=zqab w (.cells #[.bool (bitB f 0),.bool (bitB f 1),.bool (bitB f 2),.bool (bitB f 3),.bool (bitB f 4),.bool nb,.slice p q c] 117);generalize bitB f 0 = x0 at *;generalize bitB f 1 = x1 at *;generalize bitB f 2 = x2 at *;generalize bitB f 3 = x3 at *;generalize bitB f 4 = x4 at *;obtain ⟨⟨k0,k1,k2,k3,k4,k5,k6⟩,-⟩:=zqad hW0;have HSix:=zh (show SixB w.heap.size x0 x1 x2 x3 x4 nb _ from ⟨k0,k1,k2,k3,k4,k5⟩);have HB0:=zh hB0;generalize topB a = TB at *;generalize hal:a.length = al at *;have Hal:=zh hal;generalize lowW a = lw at *;have HL:=zh hl;clear hnm hg hneg d1 d2 d3 hl hz hK hfs hf hFF hwr y0 y1 y2 y3 y4 y5 s1 s2 s3 s4 s5 hW0 hB0 k0 k1 k2 k3 k4 k5 k6 hal;obtain ⟨i0,hi,hz0,hz1,hz2⟩:=info_parts Tryz.infoU8;unfold BytesP5;go_enter Tryz.func81,Tryz.ntmps81;go_wp2_with fail;refine (HO.out _ HB0.out).mono ?_; rintro e w1 ⟨⟨u,rfl,hu⟩,hb1⟩;have hwl:=HUq.out w1 u hu;have HSix1:=zh (HSix.out.call hb1);have HB1:=zh (zqaa HB0.out hb1);obtain ⟨up,uc,hu'⟩:=hwl.shape;rw [Hal.out] at hu';subst hu';have HWL:=zh hwl;clear hu hb1 hwl HO HUq HSix HB0;have hal70:al ≤ 70:=hn70;go_wp2_with fail;go_loop [4] (fun i => ∃ k:Nat,k ≤ lw ∧ i = .int .i64 k) (fun i => lw - (intOf i).toNat)
 case atStart => exact ⟨0,Nat.zero_le _,rfl⟩
 case round =>
  obtain ⟨k,hk,rfl⟩:=hrel
  by_cases hlt:k < lw
  ·have hz:=HZ.out k hlt;obtain ⟨b,off,hp,hbl,hcell⟩:=HWL.out.1.cell (i:=k) (by rw [Hal.out]; omega)
   rw [hz] at hcell;subst hp;have h1:(k:Int) < (al:Int):=by omega
   clear hz hbl;go_wp2_with fail;go_round
   case rel => exact ⟨k + 1,by omega,by go_num⟩
   case measure => simp [intOf]; omega
  ·obtain rfl:k = lw:=by omega
   have hjj:(k < al ∧ ∃ b off z,up = some ⟨b,off,none⟩ ∧ w1.cell? ⟨b,off + k,none⟩ = some (.int .u32 z) ∧ z ≠ 0) ∨ k = al:=by
    rcases (by omega:k < al ∨ k = al) with hlt | h
    ·obtain ⟨b,off,hp,-,hcell⟩:=HWL.out.1.cell (i:=k) (by rw [Hal.out]; omega)
     exact .inl ⟨hlt,b,off,_,hp,hcell,HNe.out hlt⟩
    ·exact .inr h
   clear HNe HZ;rcases hjj with ⟨hlt,b,off,z,rfl,hcell,hz⟩ | rfl
   ·have h1:(k:Int) < (al:Int):=by omega
    go_upto_region 5 with fail;clear hcell hz;have e1:IntKind.u8.wrap (k:Int) = k:=by simp [IntKind.wrap,IntKind.bits,IntKind.signed]; omega
    have e2:IntKind.i64.wrap ((al:Int) - k) = (al:Int) - k:=IntWalk.i64_in _ (by omega)
    have e3:IntKind.u8.wrap ((al:Int) - k) = (al:Int) - k:=by simp [IntKind.wrap,IntKind.bits,IntKind.signed]; omega
    have hk6:SixB w.heap.size x0 x1 x2 x3 x4 nb w1.drew:=HSix1.out.call (Below.refl _ _).drew;obtain ⟨hsm1,hsm2,hsm3,hsm4,hsm5,hsm6⟩:=HSm.out;generalize hv0:flagV x0 1 = v0 at *;generalize hv1:flagV x1 2 = v1 at *;generalize hv2:flagV x2 4 = v2 at *;generalize hv3:flagV x3 8 = v3 at *;generalize hv4:flagV x4 16 = v4 at *;generalize hv5:flagV nb 32 = v5 at *;have HF:=zh (fun (w:World) => And.intro (hv0 ▸ zqa5 x0 1 w) (And.intro (hv1 ▸ zqa5 x1 2 w) (And.intro (hv2 ▸ zqa5 x2 4 w) (And.intro (hv3 ▸ zqa5 x3 8 w) (And.intro (hv4 ▸ zqa5 x4 16 w) (hv5 ▸ zqa5 nb 32 w))))))
    clear hv0 hv1 hv2 hv3 hv4 hv5;go_region_held3 (SixB w.heap.size x0 x1 x2 x3 x4 nb) (with_reducible first | exact hk6 | exact SixB.allocDrew HSix1.out)
     (first
      | (go_at_call_of 137 (1:Int); refine (HF.out _).1.mono ?_; rintro e w' ⟨rfl,rfl⟩)
      | (go_at_call_of 137 (2:Int); refine (HF.out _).2.1.mono ?_; rintro e w' ⟨rfl,rfl⟩)
      | (go_at_call_of 137 (4:Int); refine (HF.out _).2.2.1.mono ?_; rintro e w' ⟨rfl,rfl⟩)
      | (go_at_call_of 137 (8:Int); refine (HF.out _).2.2.2.1.mono ?_; rintro e w' ⟨rfl,rfl⟩)
      | (go_at_call_of 137 (16:Int); refine (HF.out _).2.2.2.2.1.mono ?_; rintro e w' ⟨rfl,rfl⟩)
      | (go_at_call_of 137 (32:Int); refine (HF.out _).2.2.2.2.2.mono ?_; rintro e w' ⟨rfl,rfl⟩))
    have hO:=own3 w1 w1.heap.size FF k ((al:Int) - k) (Nat.le_refl _);have hBs:Below w1.heap.size w1 (w1.alloc (.cells #[.int .u8 FF,.int .u8 k,.int .u8 ((al:Int) - k)] 5)).drew:=(zqab w1 _).drew;have HOB:=zh (And.intro (show BOwn5 (w1.alloc (.cells #[.int .u8 FF,.int .u8 k,.int .u8 ((al:Int) - k)] 5)).drew w1.heap.size _ _ from hO) hBs);have hT0:TB 0 = []:=List.length_eq_zero_iff.1 (by rw [HTB.out])
    clear hO hBs HSix1 HF HSm hsm1 hsm2 hsm3 hsm4 hsm5 hsm6 hk6 e1 e3;go_wp2_with fail;go_loopw [5,6] (fun bv i wr => ∃ j:Nat,j ≤ al - k ∧ i = .int .i64 ((al:Int) - 1 - j) ∧ Hid (BOwn5 wr w1.heap.size bv ([FF,(k:Int),(al:Int) - k] ++ TB j)) ∧ Hid (Below w1.heap.size w1 wr)) (fun _ i _ => (intOf i + 1).toNat)
    case atStart => exact ⟨0,Nat.zero_le _,by go_num,zh (by rw [hT0,List.append_nil]; exact HOB.out.1),zh HOB.out.2⟩
    case round =>
     obtain ⟨j,hj,rfl,hown,hb⟩:=hrel;clear HOB hT0
     by_cases hlt2:j < al - k
     ·obtain ⟨b',off',hp,hbl,hcell⟩:=(HWL.out.1).cell (i:=al - 1 - j) (by rw [Hal.out]; omega)
      simp only [Option.some.injEq,Addr.mk.injEq,and_true] at hp;obtain ⟨rfl,rfl⟩:=hp;have hx:=HX.out (al - 1 - j);have hT1:=HTS.out j;obtain ⟨m,hm⟩:∃ m,al - 1 - j = m:=⟨_,rfl⟩
      rw [hm] at hx hcell hT1;have hlen:=HTB.out j;generalize a.getD m 0 = y at *;have HT1:=zh hT1;have hc:=(hb.out.cell (p:=⟨b,off + m,none⟩) hbl).trans hcell;have i3:(al:Int) - 1 - j = m:=by omega
      rw [i3];have i4:(k:Int) ≤ (m:Int):=by omega
      have i5:(m:Int) < (al:Int):=by omega
      have hlen2:([FF,(k:Int),(al:Int) - k] ++ TB j).length ≤ 100000:=by simp [hlen]; omega
      obtain ⟨pa,pl,pc,rfl⟩:=zqbf hown.out;have hOA:=(hown.out.alloc (.cells #[.int .u8 (y / 16777216),.int .u8 (y / 65536 % 256),.int .u8 (y / 256 % 256),.int .u8 (y % 256)] 5)).drew;have hI4:=zqs9 wr (y / 16777216) (y / 65536 % 256) (y / 256 % 256) (y % 256);have hsz:=hb.out.size;have hsz':w1.heap.size ≤ (wr.alloc (.cells #[.int .u8 (y / 16777216),.int .u8 (y / 65536 % 256),.int .u8 (y / 256 % 256),.int .u8 (y % 256)] 5)).drew.heap.size:=by simp; omega
      have hk0:wr.drew.cell? ⟨b,off + m,none⟩ = some (.int .u32 y):=by simp [hc]
      have hk1:∀ o,(wr.alloc o).drew.cell? ⟨b,off + m,none⟩ = some (.int .u32 y):=fun o => ((zqab wr o).drew.cell (p:=⟨b,off + m,none⟩) (by show b < wr.heap.size; omega)).trans hc
      have HCl:=zh (And.intro hbl hcell);have HOB:=zh hown.out;have HBW:=zh hb.out;obtain ⟨y0,y1⟩:=hx;have q1:IntKind.u8.wrap (y / 16777216) = y / 16777216:=by simp [IntKind.wrap,IntKind.bits,IntKind.signed]; omega
      have q2:IntKind.u8.wrap (y / 65536) = y / 65536 % 256:=by simp [IntKind.wrap,IntKind.bits,IntKind.signed]
      have q3:IntKind.u8.wrap (y / 256) = y / 256 % 256:=by simp [IntKind.wrap,IntKind.bits,IntKind.signed]
      have q4:IntKind.u8.wrap y = y % 256:=by simp [IntKind.wrap,IntKind.bits,IntKind.signed]
      clear hT1 hcell hbl hown hb hm hlen;go_upto_region 9 with fail;go_region_held3 (fun w' => w'.cell? ⟨b,off + m,none⟩ = some (.int .u32 y)) (with_reducible first | exact hk0 | exact hk1 _ | exact hk2)
       (first
        | (refine zqin _ (by rfl) _ _ _ (by rfl) w1.heap.size 5 i0 (.int .u8 0) 1 Tryz.underlying87 hi hz0 hz1 hz2 (by rfl) .u8 _ _ ([FF,(k:Int),(al:Int) - k] ++ TB j) [y / 16777216,y / 65536 % 256,y / 256 % 256,y % 256] (by rfl) (by rfl) hOA hI4 (by unfold maxLen; simp only [List.length_cons,List.length_nil]; omega) (by simp only [List.length_cons,List.length_nil]; omega) hsz' ?_; intro v2 w2 hown2 hg2; have hP:=zqt2 (w:=w1) hsz HBW.out HOB.out hown2 hg2; have hk2:=(hP.2.cell (p:=⟨b,off + m,none⟩) HCl.out.1).trans HCl.out.2; have HP:=zh hP; clear hown2 hg2 hP))
      clear hk0 hk1 hOA hI4;go_wp2_with fail;go_roundw
      case rel => exact ⟨j + 1,by omega,by go_num,zh (by rw [HT1.out,← List.append_assoc]; exact HP.out.1),zh HP.out.2⟩
      case measure => first | (simp [intOf]; done) | (simp [intOf]; omega)
     ·obtain rfl:j = al - k:=by omega
      obtain ⟨pa,pl,pc,rfl⟩:=zqbf hown.out;have i3:¬ (k:Int) ≤ (al:Int) - 1 - ((al - k:Nat):Int):=by omega
      go_wp2_with fail;go_ret;exact ⟨⟨_,rfl,by rw [HL.out]; exact hown.out.mono HB1.out.size⟩,zqaa HB1.out hb.out⟩
   ·rw [Nat.sub_self,Int.sub_self] at HL;go_upto_region 5 with fail;have e1:IntKind.u8.wrap (k:Int) = k:=by simp [IntKind.wrap,IntKind.bits,IntKind.signed]; omega
    have hk6:SixB w.heap.size x0 x1 x2 x3 x4 nb w1.drew:=HSix1.out.call (Below.refl _ _).drew;obtain ⟨hsm1,hsm2,hsm3,hsm4,hsm5,hsm6⟩:=HSm.out;generalize hv0:flagV x0 1 = v0 at *;generalize hv1:flagV x1 2 = v1 at *;generalize hv2:flagV x2 4 = v2 at *;generalize hv3:flagV x3 8 = v3 at *;generalize hv4:flagV x4 16 = v4 at *;generalize hv5:flagV nb 32 = v5 at *;have HF:=zh (fun (w:World) => And.intro (hv0 ▸ zqa5 x0 1 w) (And.intro (hv1 ▸ zqa5 x1 2 w) (And.intro (hv2 ▸ zqa5 x2 4 w) (And.intro (hv3 ▸ zqa5 x3 8 w) (And.intro (hv4 ▸ zqa5 x4 16 w) (hv5 ▸ zqa5 nb 32 w))))))
    clear hv0 hv1 hv2 hv3 hv4 hv5;go_region_held3 (SixB w.heap.size x0 x1 x2 x3 x4 nb) (with_reducible first | exact hk6 | exact SixB.allocDrew HSix1.out)
     (first
      | (go_at_call_of 137 (1:Int); refine (HF.out _).1.mono ?_; rintro e w' ⟨rfl,rfl⟩)
      | (go_at_call_of 137 (2:Int); refine (HF.out _).2.1.mono ?_; rintro e w' ⟨rfl,rfl⟩)
      | (go_at_call_of 137 (4:Int); refine (HF.out _).2.2.1.mono ?_; rintro e w' ⟨rfl,rfl⟩)
      | (go_at_call_of 137 (8:Int); refine (HF.out _).2.2.2.1.mono ?_; rintro e w' ⟨rfl,rfl⟩)
      | (go_at_call_of 137 (16:Int); refine (HF.out _).2.2.2.2.1.mono ?_; rintro e w' ⟨rfl,rfl⟩)
      | (go_at_call_of 137 (32:Int); refine (HF.out _).2.2.2.2.2.mono ?_; rintro e w' ⟨rfl,rfl⟩))
    rw [show IntKind.u8.wrap (IntKind.i64.wrap 0) = 0 by decide]
    have hO:=own3 w1 w1.heap.size FF k 0 (Nat.le_refl _);have hBs:Below w1.heap.size w1 (w1.alloc (.cells #[.int .u8 FF,.int .u8 k,.int .u8 0] 5)).drew:=(zqab w1 _).drew;have HOB:=zh (And.intro (show BOwn5 (w1.alloc (.cells #[.int .u8 FF,.int .u8 k,.int .u8 0] 5)).drew w1.heap.size _ _ from hO) hBs);have hT0:=zh (show TB 0 = [] from List.length_eq_zero_iff.1 (by rw [HTB.out]))
    clear hO hBs HSix1 HF HSm hsm1 hsm2 hsm3 hsm4 hsm5 hsm6 hk6 e1;go_wp2_with fail;go_loopw [5,6] (fun bv i wr => i = .int .i64 ((k:Int) - 1) ∧ Hid (BOwn5 wr w1.heap.size bv [FF,(k:Int),0]) ∧ Hid (Below w1.heap.size w1 wr)) (fun _ _ _ => 0)
    case atStart => exact ⟨by go_num,zh HOB.out.1,zh HOB.out.2⟩
    case round =>
     obtain ⟨rfl,hown,hb⟩:=hrel;clear HOB;obtain ⟨pa,pl,pc,rfl⟩:=zqbf hown.out;have i3:¬ (k:Int) ≤ (k:Int) - 1:=by omega
     go_wp2_with fail;go_ret;exact ⟨⟨_,rfl,by rw [HL.out,hT0.out]; exact hown.out.mono HB1.out.size⟩,zqaa HB1.out hb.out⟩
end Go.Proofs.YtmnbljijnbhghaaGreatDoor
namespace Go.Proofs.YtmnbljijnbhghaaGreatDoor
set_option maxRecDepth 100000
open Go.RowKit
set_option linter.unusedVariables false
attribute [local go_sem ↓] Go.wp_at_zero Go.wp_at_succ
theorem SumAt.box {w w':World} {M K f:Nat} {t:Int} {cur:Array Value} {fr:Nat × Nat} (h:SumAt w M f t) (hp:w.heap[K]? = some (.cells cur 117 fr)) (hg:w.grownBy w' (some K)):SumAt w' M f t:=by
 obtain ⟨v,h1,⟨a,m1,m2,m3⟩,h3⟩:=h;have hne:M ≠ K:=by
  rintro rfl;unfold Cells4 at h1;rw [h1] at hp;simp at hp
 refine ⟨v,?_,⟨a,⟨m1.1.grown m2 hp (by decide) hg,m1.2⟩,m2.grown hp (by decide) hg,m3⟩,h3⟩
 unfold Cells4;rw [hg.block M h1.lt (by simpa using hne)]; exact h1
theorem SumBox.sum {w w':World} {K f:Nat} {t:Int} {N g:Nat} {u:Int} (h:SumBox w K f t) (k:SumAt w N g u) (hg:w.grownBy w' (some N)):SumBox w' K f t:=by
 obtain ⟨nb,p,l,c,h1,h2,h3⟩:=h;have hne:K ≠ N:=by
  rintro rfl;obtain ⟨x,k1,-⟩:=k;unfold Cells4 at k1;rw [k1] at h1;simp at h1
 exact ⟨nb,p,l,c,(hg.block _ (Array.getElem?_eq_some_iff.1 h1).1 (by simpa using hne)).trans h1,h2.sum k hg,h3⟩
end Go.Proofs.YtmnbljijnbhghaaGreatDoor
namespace Go.Proofs.YtmnbljijnbhghaaGreatDoor
set_option maxRecDepth 100000
open Go.RowKit
set_option linter.unusedVariables false
theorem SumBox.value {w:World} {K f:Nat} {t:Int} (h:SumBox w K f t):∃ nb p l c,w.heap[K]? = some (.cells #[.bool (bitB f 0),.bool (bitB f 1),.bool (bitB f 2),.bool (bitB f 3),.bool (bitB f 4),.bool nb,.slice p l c] 117 (0,0)) ∧
  SumV w (.agg #[.bool (bitB f 0),.bool (bitB f 1),.bool (bitB f 2),.bool (bitB f 3),.bool (bitB f 4),.bool nb,.slice p l c]) f t:=by
 obtain ⟨nb,p,l,c,h1,h2,h3⟩:=h;exact ⟨nb,p,l,c,h1,nb,p,l,c,rfl,h2,h3⟩
theorem SumV.box {w:World} {f:Nat} {t:Int} {nb:Bool} {p:Option Addr} {l c:Nat} (h:SumV w (.agg #[.bool (bitB f 0),.bool (bitB f 1),.bool (bitB f 2),.bool (bitB f 3),.bool (bitB f 4),.bool nb,.slice p l c]) f t) :
  SumBox (w.alloc (.cells #[.bool (bitB f 0),.bool (bitB f 1),.bool (bitB f 2),.bool (bitB f 3),.bool (bitB f 4),.bool nb,.slice p l c] 117)) w.heap.size f t:=by
 obtain ⟨nb',p',l',c',e,h2,h3⟩:=h;simp only [Value.agg.injEq,Array.mk.injEq,List.cons.injEq,Value.bool.injEq,Value.slice.injEq,and_true,true_and] at e;obtain ⟨rfl,rfl,rfl,rfl⟩:=e;exact ⟨_,_,_,_,heap_alloc_new w _,h2.below (zqab w _),h3⟩
theorem SumV.shape {w:World} {v:Value} {f:Nat} {t:Int} (h:SumV w v f t):∃ nb p l c,v = .agg #[.bool (bitB f 0),.bool (bitB f 1),.bool (bitB f 2),.bool (bitB f 3),.bool (bitB f 4),.bool nb,.slice p l c]:=by
 obtain ⟨nb,p,l,c,e,-,-⟩:=h;exact ⟨nb,p,l,c,e⟩
end Go.Proofs.YtmnbljijnbhghaaGreatDoor
