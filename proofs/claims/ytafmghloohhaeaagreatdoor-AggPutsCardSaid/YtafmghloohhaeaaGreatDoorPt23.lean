/- Contracts that the law leans on: Bufd Bufe Bufh. -/
import Derived.Lib.Bytealg
import Derived.Test.YtafmghloohhaeaaGreatDoorPt02
import Derived.Test.YtafmghloohhaeaaGreatDoorPt09
import Derived.Test.YtafmghloohhaeaaGreatDoorPt10
namespace Go.Proofs.YtafmghloohhaeaaGreatDoor
set_option maxRecDepth 100000
open Go.RowKit
set_option linter.unusedVariables false
theorem below_grown {w0 w w':World} {N:Nat} (h:Below w0.heap.size w0 w) (g:w.grownBy w' (some N)) (hN:w0.heap.size ≤ N):Below w0.heap.size w0 w' :=
 h.grown g h.size (fun k hk => by have e:N = k:=Option.some.inj hk; omega)
def In4 (w:World) (N:Nat) (v:Value) (p e:Nat):Prop:=w.heap[N]? = some (.cells #[v,.int .i64 p,.int .i64 e,.bool true] 119 (0,0))
theorem In4.reads {w:World} {N:Nat} {v:Value} {p e:Nat} (h:In4 w N v p e) :
  w.cell? ⟨N,0,none⟩ = some v ∧ w.cell? ⟨N,1,none⟩ = some (.int .i64 p) ∧ w.cell? ⟨N,2,none⟩ = some (.int .i64 e) ∧ w.cell? ⟨N,3,none⟩ = some (.bool true):=by
 unfold In4 at h;refine ⟨by simp [World.cell?,h],by simp [World.cell?,h],by simp [World.cell?,h],by simp [World.cell?,h]⟩
theorem In4.free {w:World} {N:Nat} {v:Value} {p e:Nat} (h:In4 w N v p e):w.frozen? ⟨N,1,none⟩ = false ∧ w.frozen? ⟨N,2,none⟩ = false:=by
 unfold In4 at h;refine ⟨by simp [World.frozen?,h],by simp [World.frozen?,h]⟩
theorem In4.lt {w:World} {N:Nat} {v:Value} {p e:Nat} (h:In4 w N v p e):N < w.heap.size:=(Array.getElem?_eq_some_iff.1 h).1
theorem In4.below {w w':World} {N:Nat} {v:Value} {p e:Nat} (h:In4 w N v p e) (hb:Below w.heap.size w w'):In4 w' N v p e:=by
 unfold In4; rw [hb.block N h.lt]; exact h
def InAt (w:World) (N:Nat) (b:List Int) (p e:Nat):Prop:=∃ v,In4 w N v p e ∧ Ints .u8 w v b ∧ Typed 5 w v ∧ Bt b ∧ b.length ≤ 20000 ∧ p ≤ b.length
theorem InAt.lt {w:World} {N:Nat} {b:List Int} {p e:Nat} (h:InAt w N b p e):N < w.heap.size:=by obtain ⟨v,h,-⟩:=h; exact h.lt
theorem InAt.below {w w':World} {N:Nat} {b:List Int} {p e:Nat} (h:InAt w N b p e) (hb:Below w.heap.size w w'):InAt w' N b p e:=by
 obtain ⟨v,h1,h2,h3,h4⟩:=h;exact ⟨v,h1.below hb,h2.below hb,h3.below hb,h4⟩
theorem InAt.pos {w:World} {N:Nat} {b:List Int} {p e:Nat} (h:InAt w N b p e) {q:Nat} (hq:q ≤ b.length):InAt (w.setCell ⟨N,1,none⟩ (.int .i64 q)) N b q e:=by
 obtain ⟨v,h1,h2,h3,h4,h5,h6⟩:=h;refine ⟨v,?_,h2.grown h3 h1 (by decide) (zqae w N 1 _),h3.grown h1 (by decide) (zqae w N 1 _),h4,h5,hq⟩
 have:=heap_setCell_same w N 1 _ _ (.int .i64 q) h1;exact this
theorem InAt.err {w:World} {N:Nat} {b:List Int} {p e:Nat} (h:InAt w N b p e) (f:Nat):InAt (w.setCell ⟨N,2,none⟩ (.int .i64 f)) N b p f:=by
 obtain ⟨v,h1,h2,h3,h4,h5,h6⟩:=h;refine ⟨v,?_,h2.grown h3 h1 (by decide) (zqae w N 2 _),h3.grown h1 (by decide) (zqae w N 2 _),h4,h5,h6⟩
 have:=heap_setCell_same w N 2 _ _ (.int .i64 f) h1;exact this
theorem zql6 {w:World} {a:Option Addr} {cap:Nat} {b:List Int} (hv:Ints .u8 w (.slice a b.length cap) b) {k h:Nat} (hk:k ≤ h) (hh:h ≤ b.length) :
  Ints .u8 w (.slice (if cap = k then a else a.map (·.add (k * 1))) (h - k) (cap - k)) ((b.take h).drop k):=by
 obtain ⟨a',cap',e,hc,ha⟩:=hv;simp only [Value.slice.injEq,true_and] at e;obtain ⟨rfl,rfl⟩:=e;have hl:((b.take h).drop k).length = h - k:=by simp; omega
 by_cases h0:h = k
 ·subst h0;refine ⟨_,_,by rw [hl],by rw [hl]; omega,.inl ?_⟩
  exact List.length_eq_zero_iff.1 (by rw [hl]; omega)
 ·rcases ha with h' | ⟨bb,off,rfl,hbl,hcell⟩
  ·subst h'; simp at hh; omega
  ·rw [if_neg (by omega)]
   refine ⟨some ⟨bb,off + k,none⟩,cap - k,?_,by rw [hl]; omega,.inr ⟨bb,off + k,rfl,hbl,fun i hi => ?_⟩⟩
   ·rw [hl,Nat.mul_one]
    by_cases k0:k = 0
    ·subst k0; simp [Addr.add]
    ·simp [Addr.add,k0]
   ·rw [hl] at hi;have:=hcell (k + i) (by omega)
    rw [show off + k + i = off + (k + i) by omega,this]
    congr 2
    simp [List.getD,show k + i < b.length by omega,show k + i < h by omega,List.getElem?_drop]
theorem zqzi {b:List Int} (k:Nat):(b.take b.length).drop k = b.drop k:=by rw [List.take_length]
theorem zqm3 {w:World} {a:Option Addr} {cap l k:Nat} (hk:k ≤ l) (hs:∃ i,Tryz.prog.info? 5 = some i ∧ i.size = 1):(Instr.slice 36 (.slice a l cap) (some (.int .i64 k)) none none).run Tryz.prog w = .ok (.slice (if cap = k then a else a.map (·.add (k * 1))) (l - k) (cap - k)) w:=by
 obtain ⟨i,hi,hs⟩:=hs;simp [Instr.slice,run_underlying Tryz.underlying36,Instr.sliceBounds,Instr.sliceBound,asIntOf,sizeOf,typeInfo,hi,hs,hk,go_sem]
theorem zqym {w:World} {a:Option Addr} {cap l k h:Nat} (hk:k ≤ h) (hh:h ≤ cap) (hs:∃ i,Tryz.prog.info? 5 = some i ∧ i.size = 1):(Instr.slice 36 (.slice a l cap) (some (.int .i64 k)) (some (.int .i64 h)) none).run Tryz.prog w = .ok (.slice (if cap = k then a else a.map (·.add (k * 1))) (h - k) (cap - k)) w:=by
 obtain ⟨i,hi,hs⟩:=hs;simp [Instr.slice,run_underlying Tryz.underlying36,Instr.sliceBounds,Instr.sliceBound,asIntOf,sizeOf,typeInfo,hi,hs,hk,hh,go_sem]
theorem size1:∃ i,Tryz.prog.info? 5 = some i ∧ i.size = 1:=by
 obtain ⟨i0,hi,hz0,hz1,hz2⟩:=info_parts Tryz.infoU8;exact ⟨i0,hi,hz1⟩
theorem zqfy {w:World} {a:Option Addr} {cap k:Nat} {b:List Int} (hv:Ints .u8 w (.slice a b.length cap) b) (hk:k ≤ b.length) :
  ∃ u c,(∀ w',(Instr.slice 36 (.slice a b.length cap) (some (.int .i64 k)) none none).run Tryz.prog w' = .ok (.slice u (b.length - k) c) w') ∧ Ints .u8 w (.slice u (b.length - k) c) (b.drop k) :=
 ⟨_,_,fun w' => zqm3 hk size1,by have:=zql6 hv hk (Nat.le_refl _); rwa [zqzi] at this⟩
theorem zqx3 {w:World} {a:Option Addr} {cap k h:Nat} {b:List Int} (hv:Ints .u8 w (.slice a b.length cap) b) (hk:k ≤ h) (hh:h ≤ b.length) :
  ∃ u c,(∀ w',(Instr.slice 36 (.slice a b.length cap) (some (.int .i64 k)) (some (.int .i64 h)) none).run Tryz.prog w' = .ok (.slice u (h - k) c) w') ∧ Ints .u8 w (.slice u (h - k) c) ((b.take h).drop k):=by
 have hc:b.length ≤ cap:=by
  obtain ⟨a',cap',e,hc,-⟩:=hv;simp only [Value.slice.injEq,true_and] at e;obtain ⟨rfl,rfl⟩:=e;exact hc
 exact ⟨_,_,fun w' => zqym hk (by omega) size1,zql6 hv hk hh⟩
def uN (most:Int) (r:Int × Nat × Nat):Int × Nat × Nat:=if r.2.2 = 0 ∧ most < r.1 then (0,0,2) else r
def bN (most:Int) (b:List Int):List Int × Nat × Nat :=
 if (getU b).2.2 ≠ 0 then ([],0,(getU b).2.2) else if max most 0 < (getU b).1 then ([],0,4) else if ((b.length - (getU b).2.1:Nat):Int) < (getU b).1 then ([],0,5)
 else ((b.drop (getU b).2.1).take (getU b).1.toNat,(getU b).2.1 + (getU b).1.toNat,0)
def fN (r:Int × Nat):Int × Nat × Nat:=if r.2 = 0 then (r.1,8,0) else (0,0,r.2)
theorem zqde {b:List Int} (hb:Bt b):((getU b).2.2 = 0 → (getU b).2.1 ≤ b.length ∧ 0 ≤ (getU b).1 ∧ (getU b).1 < 18446744073709551616) ∧ (getU b).2.2 < 9:=by
 cases b with
 | nil => simp [getU]
 | cons h t =>
  rw [zqds]
  split
  ·simp
  ·split
   ·simp
   ·rename_i h1 h2;refine ⟨fun _ => ?_,by simp⟩
    have h8:h.toNat ≤ 8:=by omega
    have:=zqao (hb.tail) (f:=0) (by decide) (by decide) h.toNat
    have hp:(256:Int) ^ h.toNat ≤ 256 ^ 8:=by
     rw [show (256:Int) = ((256:Nat):Int) by rfl,← Int.natCast_pow,← Int.natCast_pow]
     exact Int.ofNat_le.2 (Nat.pow_le_pow_right (by decide) h8)
    have h88:(256:Int) ^ 8 = 18446744073709551616:=by decide
    refine ⟨by simp; omega,this.1,by omega⟩
theorem zqta {b:List Int} (h:(getU b).2.2 ≠ 0):(getU b).1 = 0 ∧ (getU b).2.1 = 0:=by
 cases b with
 | nil => simp [getU]
 | cons c t =>
  rw [zqds] at h ⊢
  split
  ·simp
  ·split
   ·simp
   ·rename_i h1 h2; rw [if_neg h1,if_neg h2] at h; simp at h
theorem zqh6 {b:List Int}:((getI b).2.2 = 0 → (getI b).2.1 ≤ b.length) ∧ (getI b).2.2 < 9:=by
 cases b with
 | nil => simp [getI]
 | cons h t =>
  rw [zqb5]
  split
  ·simp
  ·split
   ·simp
   ·exact ⟨fun _ => by simp; omega,by simp⟩
theorem zqkx {b:List Int} (h:(getI b).2.2 ≠ 0):(getI b).1 = 0 ∧ (getI b).2.1 = 0:=by
 cases b with
 | nil => simp [getI]
 | cons c t =>
  rw [zqb5] at h ⊢
  split
  ·simp
  ·split
   ·simp
   ·rename_i h1 h2; rw [if_neg h1,if_neg h2] at h; simp at h
theorem zqmg {b:List Int}:((getF b).2 = 0 → 8 ≤ b.length) ∧ (getF b).2 < 9:=by
 unfold getF
 repeat' split
 all_goals (first | (simp; done) | (simp; omega))
set_option maxRecDepth 100000
open Go.RowKit
set_option linter.unusedVariables false
theorem zqbq (w:World) (N:Nat) (b:List Int) (p e:Nat) (h:InAt w N b p e) :
  Calls Tryz.prog 66 #[.pointer (some ⟨N,0,none⟩)] w fun r w' => r = .returned (.int .i64 e) ∧ w = w':=by
 obtain ⟨v,h,-⟩:=h;obtain ⟨r0,r1,r2,r3⟩:=h.reads;clear h;go_enter Tryz.func66,Tryz.ntmps66;go_wp2_with fail;go_ret;exact ⟨rfl,rfl⟩
def Shut (v:Value) (e:Nat) (w:World):Prop:=e ≠ 0 ∧ e < 100 ∧ ∀ w',Below w.heap.size w w' → Calls Tryz.prog 66 #[v] w' fun r w2 => r = .returned (.int .i64 e) ∧ w' = w2
theorem Shut.below {v:Value} {e:Nat} {w w':World} (h:Shut v e w) (hb:Below w.heap.size w w'):Shut v e w':=⟨h.1,h.2.1,fun w2 h2 => h.2.2 w2 (hb.trans (h2.mono hb.size))⟩
theorem InAt.shut {w:World} {N:Nat} {b:List Int} {p e:Nat} (h:InAt w N b p e) (he:e ≠ 0) (h9:e < 100):Shut (.pointer (some ⟨N,0,none⟩)) e w:=⟨he,h9,fun w' hb => zqbq w' N b p e (h.below hb)⟩
theorem zqxe (w:World) (N:Nat) (b:List Int) (p:Nat) (h:InAt w N b p 0) :
  Calls Tryz.prog 32 #[.pointer (some ⟨N,0,none⟩)] w fun r w' => r = .returned (.int .i64 ((b.length - p:Nat):Int)) ∧ Below w.heap.size w w':=by
 have HF:=zh (zqbq w N b p 0 h);obtain ⟨v,h,hv,-,-,hl,hp⟩:=h;obtain ⟨r0,r1,r2,r3⟩:=h.reads;obtain ⟨a,cap,rfl,-,-⟩:=hv;have i1:IntKind.i64.wrap ((b.length:Int) - (p:Int)) = ((b.length - p:Nat):Int):=by rw [IntWalk.i64_in _ (by omega)]; omega
 clear h;go_enter Tryz.func32,Tryz.ntmps32;go_wp2_with fail;refine (HF.out).mono ?_; rintro r w1 ⟨rfl,rfl⟩;go_upto_region 3 with fail;go_region
 all_goals
  go_wp2_with fail;go_ret;exact ⟨rfl,(Below.refl _ _).drew⟩
theorem zqwj (w:World) (N:Nat) (b:List Int) (p:Nat) (h:InAt w N b p 0) :
  Calls Tryz.prog 30 #[.pointer (some ⟨N,0,none⟩)] w fun r w' => r = .returned (.tuple #[.int .i64 0,.int .i64 0]) ∧ w = w':=by
 have HF:=zh (zqbq w N b p 0 h);clear h;go_enter Tryz.func30,Tryz.ntmps30;go_wp2_with fail;refine (HF.out).mono ?_; rintro r w1 ⟨rfl,rfl⟩;go_wp2_with fail;exact bodyPost_ret (v:=.tuple #[.int .i64 0,.int .i64 0]) (by simp [results,Tryz.results30,go_sem]) rfl ⟨rfl,rfl⟩
theorem zqsv (w:World) (N:Nat) (b:List Int) (p e:Nat) (h:InAt w N b p e) (he:e ≠ 0) (h9:e < 9) :
  Calls Tryz.prog 30 #[.pointer (some ⟨N,0,none⟩)] w fun r w' => r = .returned (.tuple #[.int .i64 p,.int .i64 e]) ∧ w = w':=by
 have HF:=zh (zqbq w N b p e h);obtain ⟨v,h,-⟩:=h;obtain ⟨r0,r1,r2,r3⟩:=h.reads;have e0:((e:Int) == 0) = false:=by simp; omega
 have e1:((e:Int) == 15) = false:=by simp; omega
 clear h;go_enter Tryz.func30,Tryz.ntmps30;go_wp2_with fail;refine (HF.out).mono ?_; rintro r w1 ⟨rfl,rfl⟩;go_wp2_with fail;exact bodyPost_ret (v:=.tuple #[.int .i64 p,.int .i64 e]) (by simp [results,Tryz.results30,go_sem]) rfl ⟨rfl,rfl⟩
set_option maxRecDepth 100000
open Go.RowKit
set_option linter.unusedVariables false
theorem BytesP.ints {w w':World} {l:List Int} {e:Ending} (h:BytesP w l e w'):∃ v,e = .returned v ∧ Ints .u8 w' v l ∧ Typed 5 w' v ∧ Below w.heap.size w w':=by
 obtain ⟨⟨v,rfl,ho⟩,hb⟩:=h;exact ⟨v,rfl,Ints.own ho,Typed.own ho,hb⟩
theorem zqx0 (w:World):BOwn (w.alloc (.cells #[] 5)) w.heap.size (.slice (some ⟨w.heap.size,0,none⟩) 0 0) [] :=
 ⟨by simp,.inr ⟨w.heap.size,0,_,rfl,Nat.le_refl _,heap_alloc_new w _,by simp,by decide,by simp,by simp⟩⟩
theorem zqkq (v:Value) (l:List Int) (w:World) (hv:Ints .u8 w v l) (hl:l.length ≤ 20000):Calls Tryz.prog 60 #[v] w (BytesP w l):=by
 obtain ⟨i0,hi,hz0,hz1,hz2⟩:=info_parts Tryz.infoU8;have HV:=zh hv;obtain ⟨a,cap,rfl,hcap,ha⟩:=hv;cases a with
 | none =>
  have hn:l = []:=by
   rcases ha with h | ⟨b,off,h,_⟩
   ·exact h
   ·cases h
  subst hn;have hop:=fun w => Lib.run_eql_slice_nil (P:=Tryz.prog) w 36 5 none 0 cap 0 0 Tryz.underlying36
  go_enter Tryz.func60,Tryz.ntmps60;go_wp2_with fail;go_ret;exact ⟨⟨_,rfl,own0 w _⟩,Below.refl _ _⟩
 | some ad =>
  clear ha;have hop:=fun w => Lib.run_eql_slice_nil (P:=Tryz.prog) w 36 5 (some ad) l.length cap 0 0 Tryz.underlying36
  have HB:=zh (zqab w (.cells #[] 5));go_enter Tryz.func60,Tryz.ntmps60;go_wp2_with (at_builtin; refine zqaq _ (by rfl) _ _ 36 rfl w.heap.size 5 i0 (.int .u8 0) 1 Tryz.underlying36 hi hz0 hz1 hz2 rfl .u8 _ _ [] l rfl rfl (zqx0 w) (HV.out.below HB.out) (by unfold maxLen; simp; omega) (by simp; omega) (by simp) ?_; intro v' w1 hown hgrow; have HQ:=zh (And.intro hown (HB.out.grown hgrow (by simp) (fun k hk => by have e:w.heap.size = k:=Option.some.inj hk; omega))); obtain ⟨pv',lv',cv',rfl⟩:=zqac hown; clear hown hgrow)
  go_ret;exact ⟨⟨_,rfl,HQ.out.1⟩,HQ.out.2⟩
theorem zq1k (w:World) (v:Value) (l:List Int) (N:Nat) (hN:w.heap.size = N) (hv:Ints .u8 w v l) (ht:Typed 5 w v) (hb:Bt l) (hl:l.length ≤ 20000) :
  InAt (w.alloc (.cells #[v,.int .i64 0,.int .i64 0,.bool true] 119)) N l 0 0:=by
 subst hN;have:=zqab w (.cells #[v,.int .i64 0,.int .i64 0,.bool true] 119);exact ⟨v,heap_alloc_new w _,hv.below this,ht.below this,hb,hl,Nat.zero_le _⟩
theorem zqt3 (v:Value) (l:List Int) (w:World) (hv:Ints .u8 w v l) (hb:Bt l) (hl:l.length ≤ 20000) :
  Calls Tryz.prog 28 #[v] w fun r w' => ∃ N,r = .returned (.pointer (some ⟨N,0,none⟩)) ∧ w.heap.size ≤ N ∧ InAt w' N l 0 0 ∧ Below w.heap.size w w':=by
 have HC:=zh (zqkq v l w hv hl);obtain ⟨a,cap,rfl,-,-⟩:=hv;go_enter Tryz.func28,Tryz.ntmps28;go_wp2_with fail;refine (HC.out).mono ?_; intro r w1 hr;obtain ⟨v',rfl,h1,h2,h3⟩:=hr.ints;have HI:=zh (zq1k w1 v' l _ rfl h1 h2 hb hl);have HB:=zh (And.intro h3.size (zqaa h3 (zqab w1 (.cells #[v',.int .i64 0,.int .i64 0,.bool true] 119))));obtain ⟨pa,pc,rfl,-,-⟩:=h1;clear h2 h3 hr;go_wp2_with fail;go_ret;exact ⟨_,rfl,HB.out.1,HI.out,HB.out.2⟩
theorem zqap {w w':World} {p:Addr} {v:Value} (hb:Below w.heap.size w w') (h:w.cell? p = some v):w'.cell? p = some v:=by
 rw [hb.cell (World.block_lt_of_cell? w p h)]; exact h
theorem zq04 (v:Value) (b:List Int) (most:Int) (M:Nat) (w:World) (hv:Ints .u8 w v b) (hb:Bt b) (hl:b.length ≤ 20000) (hM:w.cell? ⟨M,0,none⟩ = some (.int .u64 most)) :
  Calls Tryz.prog 107 #[v,.pointer (some ⟨M,0,none⟩)] w fun r w' => r = .returned (trip (uN most (getU b))) ∧ Below w.heap.size w w':=by
 have HU:=zh (zqk7 v b w hv hb (by omega))
 obtain ⟨a,cap,rfl,-,-⟩:=hv;generalize getU b = rr at *;obtain ⟨x,n,e⟩:=rr;unfold trip at HU;simp only at HU;have HM:=zh hM
 by_cases he:e = 0
 ·subst he
  by_cases hm:most < x
  ·go_enter Tryz.func107,Tryz.ntmps107;go_wp2_with fail;refine (HU.out).mono ?_; rintro r w1 ⟨rfl,h1⟩;have HB:=zh h1;have hc:=zqap h1 HM.out;clear h1;go_wp2_with fail;exact bodyPost_ret (v:=.tuple #[.int .u64 0,.int .i64 0,.int .i64 2]) (by simp [results,Tryz.results107,go_sem]) rfl ⟨by unfold uN; rw [if_pos ⟨rfl,hm⟩]; rfl,HB.out⟩
  ·go_enter Tryz.func107,Tryz.ntmps107;go_wp2_with fail;refine (HU.out).mono ?_; rintro r w1 ⟨rfl,h1⟩;have HB:=zh h1;have hc:=zqap h1 HM.out;clear h1;go_wp2_with fail;exact bodyPost_ret (v:=.tuple #[.int .u64 x,.int .i64 n,.int .i64 0]) (by simp [results,Tryz.results107,go_sem]) rfl ⟨by unfold uN; rw [if_neg (fun h => absurd h.2 (Int.not_lt.2 hm))]; rfl,HB.out⟩
 ·have h0:((e:Int) == 0) = false:=by simp; omega
  go_enter Tryz.func107,Tryz.ntmps107;go_wp2_with fail;refine (HU.out).mono ?_; rintro r w1 ⟨rfl,h1⟩;have HB:=zh h1;clear h1;go_wp2_with fail;exact bodyPost_ret (v:=.tuple #[.int .u64 x,.int .i64 n,.int .i64 e]) (by simp [results,Tryz.results107,go_sem]) rfl ⟨by unfold uN; rw [if_neg (fun h => he h.1)]; rfl,HB.out⟩
set_option maxRecDepth 100000
open Go.RowKit
set_option linter.unusedVariables false
theorem bN_ok {most x:Int} {n:Nat} {b:List Int} (hU:getU b = (x,n,0)) (h1:¬ max most 0 < x) (h2:¬ ((b.length - n:Nat):Int) < x):bN most b = ((b.take (n + x.toNat)).drop n,n + x.toNat,0):=by
 unfold bN;rw [hU];simp only [ne_eq,not_true,if_false];rw [if_neg h1,if_neg h2,List.drop_take,Nat.add_sub_cancel_left]
def ByteP (R:List Int × Nat × Nat) (w:World) (r:Ending) (w':World):Prop:=(∃ v,r = .returned (.tuple #[v,.int .i64 (R.2.1:Nat),.int .i64 (R.2.2:Nat)]) ∧ Ints .u8 w' v R.1 ∧ Typed 5 w' v ∧ BOwn w' w.heap.size v R.1) ∧ Below w.heap.size w w'
theorem zqia {k:IntKind} {w:World}:Ints k w (.slice none 0 0) []:=⟨none,0,rfl,by simp,.inl rfl⟩
set_option maxHeartbeats 1000000 in
theorem zq03 (v:Value) (b:List Int) (most:Int) (M:Nat) (w:World) (hv:Ints .u8 w v b) (hb:Bt b) (hl:b.length ≤ 20000) (hM:w.cell? ⟨M,0,none⟩ = some (.int .i64 most)) (hm:most ≤ 9223372036854775807) :
  Calls Tryz.prog 112 #[v,.pointer (some ⟨M,0,none⟩)] w (ByteP (bN most b) w):=by
 have HU:=zh (zqk7 v b w hv hb (by omega))
 have HV:=zh hv;obtain ⟨a,cap,rfl,-,-⟩:=hv;have hfit:=(zqde hb).1;obtain ⟨rr,hrr⟩:∃ rr,getU b = rr:=⟨_,rfl⟩
 obtain ⟨x,n,e⟩:=rr;have HE:=zh hrr;rw [hrr] at HU hfit;unfold trip at HU;simp only at HU hfit;have HM:=zh hM;have i0:IntKind.u64.wrap (max most 0) = max most 0:=by rw [IntKind.wrap_u64]; omega
 clear hrr hM
 by_cases he:e = 0
 ·subst he;obtain ⟨f1,f2,f3⟩:=hfit rfl;have i1:IntKind.i64.wrap ((b.length:Int) - (n:Int)) = ((b.length - n:Nat):Int):=by rw [IntWalk.i64_in _ (by omega)]; omega
  have i2:IntKind.u64.wrap ((b.length - n:Nat):Int) = ((b.length - n:Nat):Int):=by rw [IntKind.wrap_u64]; omega
  by_cases h1:max most 0 < x
  ·have H1:=zh h1;go_enter Tryz.func112,Tryz.ntmps112;go_wp2_with fail;refine (HU.out).mono ?_; rintro r w1 ⟨rfl,hb1⟩;have HB:=zh hb1;have hc:=zqap hb1 HM.out;clear hb1;go_wp2_with fail;have h3:bN most b = ([],0,4):=by unfold bN; rw [HE.out]; simp only [ne_eq,not_true,if_false]; rw [if_pos H1.out]
   rw [h3];exact bodyPost_ret (v:=.tuple #[.slice none 0 0,.int .i64 0,.int .i64 4]) (by simp [results,Tryz.results112,go_sem]) rfl ⟨⟨.slice none 0 0,rfl,zqia,Typed.none,own0 _ _⟩,HB.out⟩
  ·by_cases h2:((b.length - n:Nat):Int) < x
   ·have h1':=zh h1;go_enter Tryz.func112,Tryz.ntmps112;go_wp2_with fail;refine (HU.out).mono ?_; rintro r w1 ⟨rfl,hb1⟩;have HB:=zh hb1;have hc:=zqap hb1 HM.out;clear hb1;go_wp2_with fail;have h3:bN most b = ([],0,5):=by unfold bN; rw [HE.out]; simp only [ne_eq,not_true,if_false]; rw [if_neg (Int.not_lt.2 h1'.out),if_pos h2]
    rw [h3];exact bodyPost_ret (v:=.tuple #[.slice none 0 0,.int .i64 0,.int .i64 5]) (by simp [results,Tryz.results112,go_sem]) rfl ⟨⟨.slice none 0 0,rfl,zqia,Typed.none,own0 _ _⟩,HB.out⟩
   ·have H3:=zh (bN_ok HE.out h1 h2);obtain ⟨X,rfl⟩:∃ X:Nat,x = X:=⟨x.toNat,by omega⟩
    rw [Int.toNat_natCast] at H3;obtain ⟨s,hs⟩:∃ s,n + X = s:=⟨_,rfl⟩
    rw [hs] at H3;obtain ⟨u,c,hop,hi⟩:=zqx3 HV.out (k:=n) (h:=s) (by omega) (by omega)
    have i3:IntKind.i64.wrap (X:Int) = X:=IntWalk.i64_in _ (by omega)
    have i4:IntKind.i64.wrap ((n:Int) + X) = s:=by rw [IntWalk.i64_in _ (by omega)]; omega
    have hlt:((b.take s).drop n).length ≤ 20000:=by simp; omega
    have HI:=zh hi;generalize (b.take s).drop n = l at *;generalize s - n = q at *;have HC:=zh (fun w1 (h:Below w.heap.size w w1) => zqkq _ l w1 (HI.out.below h) hlt)
    clear hlt hi hs hfit f1 f2 f3;go_enter Tryz.func112,Tryz.ntmps112;go_wp2_with fail;refine (HU.out).mono ?_; rintro r w1 ⟨rfl,hb1⟩;have HB:=zh hb1;have hc:=zqap hb1 HM.out;clear hb1;go_wp2_with fail;refine (HC.out _ HB.out).mono ?_; intro r w2 hr;obtain ⟨⟨v',rfl,ko⟩,k3⟩:=hr;have k1:=Ints.own ko;have HK:=zh (And.intro (And.intro k1 (And.intro (Typed.own ko) (zqbu ko HB.out.size))) (zqaa HB.out k3));obtain ⟨pa,pc,rfl,-,-⟩:=k1;clear ko k3;go_wp2_with fail;rw [H3.out];exact bodyPost_ret (v:=.tuple #[.slice pa l.length pc,.int .i64 (s:Int),.int .i64 0]) (by simp [results,Tryz.results112,go_sem]) rfl ⟨⟨_,rfl,HK.out.1⟩,HK.out.2⟩
 ·have h0:((e:Int) != 0) = true:=by simp; omega
  have h3:bN most b = ([],0,e):=by unfold bN; rw [HE.out]; simp only; rw [if_pos he]
  rw [h3];go_enter Tryz.func112,Tryz.ntmps112;go_wp2_with fail;refine (HU.out).mono ?_; rintro r w1 ⟨rfl,hb1⟩;have HB:=zh hb1;clear hb1;go_wp2_with fail;exact bodyPost_ret (v:=.tuple #[.slice none 0 0,.int .i64 0,.int .i64 e]) (by simp [results,Tryz.results112,go_sem]) rfl ⟨⟨.slice none 0 0,rfl,zqia,Typed.none,own0 _ _⟩,HB.out⟩
end Go.Proofs.YtafmghloohhaeaaGreatDoor
namespace Go.Proofs.YtafmghloohhaeaaGreatDoor
set_option maxRecDepth 100000
open Go.RowKit
set_option linter.unusedVariables false
theorem zqng (most:Int) {b:List Int} (hb:Bt b):(uN most (getU b)).2.2 < 9 ∧ ((uN most (getU b)).2.2 = 0 → (uN most (getU b)).2.1 ≤ b.length) ∧ ((uN most (getU b)).2.2 ≠ 0 → (uN most (getU b)).1 = 0):=by
 have h1:=zqde hb;have h2:=fun h => zqta (b:=b) h
 unfold uN
 split
 ·simp
 ·exact ⟨h1.2,fun h => (h1.1 h).1,fun h => (h2 h).1⟩
theorem zqs9 {b:List Int}:(getI b).2.2 < 9 ∧ ((getI b).2.2 = 0 → (getI b).2.1 ≤ b.length) ∧ ((getI b).2.2 ≠ 0 → (getI b).1 = 0) :=
 ⟨zqh6.2,zqh6.1,fun h => (zqkx h).1⟩
theorem zq1c {b:List Int}:(fN (getF b)).2.2 < 9 ∧ ((fN (getF b)).2.2 = 0 → (fN (getF b)).2.1 ≤ b.length) ∧ ((fN (getF b)).2.2 ≠ 0 → (fN (getF b)).1 = 0):=by
 have h1:=zqmg (b:=b);unfold fN
 split
 ·rename_i h; simp; exact h1.1 h
 ·rename_i h; simp [h]; exact h1.2
theorem zq01 (most:Int) {b:List Int} (hb:Bt b):(bN most b).2.2 < 9 ∧ ((bN most b).2.2 = 0 → (bN most b).2.1 ≤ b.length) ∧ ((bN most b).2.2 ≠ 0 → (bN most b).1 = []):=by
 have h1:=zqde hb;unfold bN
 split
 ·rename_i h0; exact ⟨h1.2,fun h => absurd h h0,fun _ => rfl⟩
 ·rename_i h0;have h2:=h1.1 (by simpa using h0)
  split
  ·simp
  ·split
   ·simp
   ·simp; omega
def ReadP (V:Value → World → Prop) (w:World) (N:Nat) (b:List Int) (p n e:Nat) (r:Ending) (w':World):Prop:=(∃ v,r = .returned v ∧ V v w') ∧ InAt w' N b (if e = 0 then p + n else p) e ∧ w.grownBy w' (some N)
set_option maxHeartbeats 1000000 in
theorem zqur (w:World) (N:Nat) (b:List Int) (p:Nat) (M:Nat) (most:Int) (h:InAt w N b p 0) (hM:w.cell? ⟨M,0,none⟩ = some (.int .u64 most)) :
  Calls Tryz.prog 106 #[.pointer (some ⟨N,0,none⟩),.func (.func 107) #[] #[.pointer (some ⟨M,0,none⟩)]] w (ReadP (fun v _ => v = .int .u64 (uN most (getU (b.drop p))).1) w N b p (uN most (getU (b.drop p))).2.1 (uN most (getU (b.drop p))).2.2):=by
 have HF:=zh (zqbq w N b p 0 h);have HI:=zh h;obtain ⟨v,h,hv,ht,hbt,hl,hp⟩:=h;obtain ⟨r0,r1,-,-⟩:=h.reads;have hv2:=hv;obtain ⟨a,cap,rfl,-,-⟩:=hv2;obtain ⟨u,c,hop,hi⟩:=zqfy hv hp;have HC:=zh (fun w1 (h:Below w.heap.size w w1) => zq04 _ (b.drop p) most M w1 (hi.below h) (hbt.drop p) (by simp; omega) (zqap h hM))
 have HR:=zh (zqng most (hbt.drop p));have hdl:(b.drop p).length = b.length - p:=by simp
 rw [hdl] at HR;unfold ReadP;generalize uN most (getU (b.drop p)) = rr at *;obtain ⟨x,n,e⟩:=rr;try unfold trip at HC
 simp only at HC HR;clear h hv ht hi hdl hM
 by_cases he:e = 0
 ·subst he;rw [if_pos rfl];have i2:IntKind.i64.wrap ((p:Int) + n) = ((p + n:Nat):Int):=by have:=HR.out.2.1 (by trivial); rw [IntWalk.i64_in _ (by omega)]; omega
  go_enter Tryz.func106,Tryz.ntmps106;go_wp2_with fail;refine (HF.out).mono ?_; rintro r w1 ⟨rfl,rfl⟩;go_upto_region 4 with fail;have hk:w.drew.cell? ⟨N,0,none⟩ = some (.slice a b.length cap) ∧ w.drew.cell? ⟨N,1,none⟩ = some (.int .i64 p):=⟨by simp [r0],by simp [r1]⟩
  have hBw:Below w.heap.size w w.drew:=(Below.refl _ _).drew;go_region_held3 (fun w' => w'.cell? ⟨N,0,none⟩ = some (.slice a b.length cap) ∧ w'.cell? ⟨N,1,none⟩ = some (.int .i64 p)) (with_reducible exact hk)
   ((go_at_call 107; refine (HC.out _ hBw).mono ?_; rintro r w2 ⟨rfl,hb2⟩; have hk:=And.intro (zqap hb2 hk.1) (zqap hb2 hk.2); have hBw:=zqaa hBw hb2; clear hb2))
  have HB:=zh hBw;have h2:=HI.out.below hBw;have HE:=zh (h2.pos (q:=p + n) (by have:=HR.out.2.1 (by trivial); omega))
  have HG:=zh (zqaf (zqah hBw (some N)) (zqae _ N 1 (.int .i64 ((p + n:Nat):Int))));obtain ⟨v2',h2,-⟩:=h2;obtain ⟨s0,s1,s2,s3⟩:=h2.reads;obtain ⟨f1,f2⟩:=h2.free;clear h2 hk hBw;go_wp2_with fail;go_ret;exact ⟨⟨_,rfl,rfl⟩,HE.out,HG.out⟩
 ·rw [if_neg he];have he':((e:Int) != 0) = true:=by simp; omega
  go_enter Tryz.func106,Tryz.ntmps106;go_wp2_with fail;refine (HF.out).mono ?_; rintro r w1 ⟨rfl,rfl⟩;go_upto_region 4 with fail;have hk:w.drew.cell? ⟨N,0,none⟩ = some (.slice a b.length cap) ∧ w.drew.cell? ⟨N,1,none⟩ = some (.int .i64 p):=⟨by simp [r0],by simp [r1]⟩
  have hBw:Below w.heap.size w w.drew:=(Below.refl _ _).drew;go_region_held3 (fun w' => w'.cell? ⟨N,0,none⟩ = some (.slice a b.length cap) ∧ w'.cell? ⟨N,1,none⟩ = some (.int .i64 p)) (with_reducible exact hk)
   ((go_at_call 107; refine (HC.out _ hBw).mono ?_; rintro r w2 ⟨rfl,hb2⟩; have hk:=And.intro (zqap hb2 hk.1) (zqap hb2 hk.2); have hBw:=zqaa hBw hb2; clear hb2))
  have HB:=zh hBw;have h2:=HI.out.below hBw;have HE:=zh (h2.err e);have HG:=zh (zqaf (zqah hBw (some N)) (zqae _ N 2 (.int .i64 e)));obtain ⟨v2',h2,-⟩:=h2;obtain ⟨s0,s1,s2,s3⟩:=h2.reads;obtain ⟨f1,f2⟩:=h2.free;clear h2 hk hBw;go_wp2_with fail;go_ret;exact ⟨⟨_,rfl,by rw [HR.out.2.2 he]; rfl⟩,HE.out,HG.out⟩
theorem zqq9 (w:World) (v f:Value) (e:Nat) (h:Shut v e w) :
  Calls Tryz.prog 106 #[v,f] w fun r w' => r = .returned (.int .u64 0) ∧ w = w':=by
 have HF:=zh (h.2.2 w (Below.refl _ _));have he:((e:Int) != 0) = true:=by have:=h.1; simp; omega
 clear h;go_enter Tryz.func106,Tryz.ntmps106;go_wp2_with fail;refine (HF.out).mono ?_; rintro r w1 ⟨rfl,rfl⟩;go_wp2_with fail;go_ret;exact ⟨rfl,rfl⟩
set_option maxHeartbeats 1000000 in
theorem zquq (w:World) (N:Nat) (b:List Int) (p:Nat)  (h:InAt w N b p 0)  :
  Calls Tryz.prog 109 #[.pointer (some ⟨N,0,none⟩),.func (.func 110) #[] #[]] w (ReadP (fun v _ => v = .int .i64 (getI (b.drop p)).1) w N b p (getI (b.drop p)).2.1 (getI (b.drop p)).2.2):=by
 have HF:=zh (zqbq w N b p 0 h);have HI:=zh h;obtain ⟨v,h,hv,ht,hbt,hl,hp⟩:=h;obtain ⟨r0,r1,-,-⟩:=h.reads;have hv2:=hv;obtain ⟨a,cap,rfl,-,-⟩:=hv2;obtain ⟨u,c,hop,hi⟩:=zqfy hv hp;have HC:=zh (fun w1 (h:Below w.heap.size w w1) => zque _ (b.drop p) w1 (hi.below h) (hbt.drop p) (by simp; omega))
 have HR:=zh (zqs9 (b:=b.drop p));have hdl:(b.drop p).length = b.length - p:=by simp
 rw [hdl] at HR;unfold ReadP;generalize getI (b.drop p) = rr at *;obtain ⟨x,n,e⟩:=rr;try unfold tripI at HC
 simp only at HC HR;clear h hv ht hi hdl
 by_cases he:e = 0
 ·subst he;rw [if_pos rfl];have i2:IntKind.i64.wrap ((p:Int) + n) = ((p + n:Nat):Int):=by have:=HR.out.2.1 (by trivial); rw [IntWalk.i64_in _ (by omega)]; omega
  go_enter Tryz.func109,Tryz.ntmps109;go_wp2_with fail;refine (HF.out).mono ?_; rintro r w1 ⟨rfl,rfl⟩;go_upto_region 4 with fail;have hk:w.drew.cell? ⟨N,0,none⟩ = some (.slice a b.length cap) ∧ w.drew.cell? ⟨N,1,none⟩ = some (.int .i64 p):=⟨by simp [r0],by simp [r1]⟩
  have hBw:Below w.heap.size w w.drew:=(Below.refl _ _).drew;go_region_held3 (fun w' => w'.cell? ⟨N,0,none⟩ = some (.slice a b.length cap) ∧ w'.cell? ⟨N,1,none⟩ = some (.int .i64 p)) (with_reducible exact hk)
   ((go_at_call 110; refine (HC.out _ hBw).mono ?_; rintro r w2 ⟨rfl,hb2⟩; have hk:=And.intro (zqap hb2 hk.1) (zqap hb2 hk.2); have hBw:=zqaa hBw hb2; clear hb2))
  have HB:=zh hBw;have h2:=HI.out.below hBw;have HE:=zh (h2.pos (q:=p + n) (by have:=HR.out.2.1 (by trivial); omega))
  have HG:=zh (zqaf (zqah hBw (some N)) (zqae _ N 1 (.int .i64 ((p + n:Nat):Int))));obtain ⟨v2',h2,-⟩:=h2;obtain ⟨s0,s1,s2,s3⟩:=h2.reads;obtain ⟨f1,f2⟩:=h2.free;clear h2 hk hBw;go_wp2_with fail;go_ret;exact ⟨⟨_,rfl,rfl⟩,HE.out,HG.out⟩
 ·rw [if_neg he];have he':((e:Int) != 0) = true:=by simp; omega
  go_enter Tryz.func109,Tryz.ntmps109;go_wp2_with fail;refine (HF.out).mono ?_; rintro r w1 ⟨rfl,rfl⟩;go_upto_region 4 with fail;have hk:w.drew.cell? ⟨N,0,none⟩ = some (.slice a b.length cap) ∧ w.drew.cell? ⟨N,1,none⟩ = some (.int .i64 p):=⟨by simp [r0],by simp [r1]⟩
  have hBw:Below w.heap.size w w.drew:=(Below.refl _ _).drew;go_region_held3 (fun w' => w'.cell? ⟨N,0,none⟩ = some (.slice a b.length cap) ∧ w'.cell? ⟨N,1,none⟩ = some (.int .i64 p)) (with_reducible exact hk)
   ((go_at_call 110; refine (HC.out _ hBw).mono ?_; rintro r w2 ⟨rfl,hb2⟩; have hk:=And.intro (zqap hb2 hk.1) (zqap hb2 hk.2); have hBw:=zqaa hBw hb2; clear hb2))
  have HB:=zh hBw;have h2:=HI.out.below hBw;have HE:=zh (h2.err e);have HG:=zh (zqaf (zqah hBw (some N)) (zqae _ N 2 (.int .i64 e)));obtain ⟨v2',h2,-⟩:=h2;obtain ⟨s0,s1,s2,s3⟩:=h2.reads;obtain ⟨f1,f2⟩:=h2.free;clear h2 hk hBw;go_wp2_with fail;go_ret;exact ⟨⟨_,rfl,by rw [HR.out.2.2 he]; rfl⟩,HE.out,HG.out⟩
theorem zqq8 (w:World) (v f:Value) (e:Nat) (h:Shut v e w) :
  Calls Tryz.prog 109 #[v,f] w fun r w' => r = .returned (.int .i64 0) ∧ w = w':=by
 have HF:=zh (h.2.2 w (Below.refl _ _));have he:((e:Int) != 0) = true:=by have:=h.1; simp; omega
 clear h;go_enter Tryz.func109,Tryz.ntmps109;go_wp2_with fail;refine (HF.out).mono ?_; rintro r w1 ⟨rfl,rfl⟩;go_wp2_with fail;go_ret;exact ⟨rfl,rfl⟩
theorem zqzq (r:Int × Nat):Ending.returned (tripF r) = .returned (.tuple #[.float .f64 (if (fN r).2.2 = 0 then fromN (fN r).1 else 0),.int .i64 ((fN r).2.1:Nat),.int .i64 ((fN r).2.2:Nat)]):=by
 unfold tripF fN
 split
 ·simp
 ·simp
set_option maxHeartbeats 1000000 in
theorem zqup (w:World) (N:Nat) (b:List Int) (p:Nat)  (h:InAt w N b p 0)  :
  Calls Tryz.prog 113 #[.pointer (some ⟨N,0,none⟩),.func (.func 114) #[] #[]] w (ReadP (fun v _ => v = .float .f64 (if (fN (getF (b.drop p))).2.2 = 0 then fromN (fN (getF (b.drop p))).1 else 0)) w N b p (fN (getF (b.drop p))).2.1 (fN (getF (b.drop p))).2.2):=by
 have HF:=zh (zqbq w N b p 0 h);have HI:=zh h;obtain ⟨v,h,hv,ht,hbt,hl,hp⟩:=h;obtain ⟨r0,r1,-,-⟩:=h.reads;have hv2:=hv;obtain ⟨a,cap,rfl,-,-⟩:=hv2;obtain ⟨u,c,hop,hi⟩:=zqfy hv hp;have HC:=zh (fun w1 (h:Below w.heap.size w w1) => show Calls Tryz.prog 114 #[_] w1 (fun e w' => e = .returned (.tuple #[.float .f64 (if (fN (getF (b.drop p))).2.2 = 0 then fromN (fN (getF (b.drop p))).1 else 0),.int .i64 ((fN (getF (b.drop p))).2.1:Nat),.int .i64 ((fN (getF (b.drop p))).2.2:Nat)]) ∧ Below w1.heap.size w1 w') from (zqud _ (b.drop p) w1 (hi.below h) (hbt.drop p) (by simp; omega)).mono fun e w' ⟨h1,h2⟩ => ⟨by rw [h1,zqzq],h2⟩)
 have HR:=zh (zq1c (b:=b.drop p));have hdl:(b.drop p).length = b.length - p:=by simp
 rw [hdl] at HR;unfold ReadP;generalize fN (getF (b.drop p)) = rr at *;obtain ⟨x,n,e⟩:=rr;try unfold tripF at HC
 simp only at HC HR;have HY:=zh (show (if e = 0 then fromN x else 0) = (if e = 0 then fromN x else 0) from rfl)
 have HZ:=zh (fun (h:e ≠ 0) => show (if e = 0 then fromN x else 0) = 0 by rw [if_neg h])
 generalize (if e = 0 then fromN x else 0) = y at *
 clear h hv ht hi hdl
 by_cases he:e = 0
 ·subst he;rw [if_pos rfl];have i2:IntKind.i64.wrap ((p:Int) + n) = ((p + n:Nat):Int):=by have:=HR.out.2.1 (by trivial); rw [IntWalk.i64_in _ (by omega)]; omega
  go_enter Tryz.func113,Tryz.ntmps113;go_wp2_with fail;refine (HF.out).mono ?_; rintro r w1 ⟨rfl,rfl⟩;go_upto_region 4 with fail;have hk:w.drew.cell? ⟨N,0,none⟩ = some (.slice a b.length cap) ∧ w.drew.cell? ⟨N,1,none⟩ = some (.int .i64 p):=⟨by simp [r0],by simp [r1]⟩
  have hBw:Below w.heap.size w w.drew:=(Below.refl _ _).drew;go_region_held3 (fun w' => w'.cell? ⟨N,0,none⟩ = some (.slice a b.length cap) ∧ w'.cell? ⟨N,1,none⟩ = some (.int .i64 p)) (with_reducible exact hk)
   ((go_at_call 114; refine (HC.out _ hBw).mono ?_; rintro r w2 ⟨rfl,hb2⟩; have hk:=And.intro (zqap hb2 hk.1) (zqap hb2 hk.2); have hBw:=zqaa hBw hb2; clear hb2))
  have HB:=zh hBw;have h2:=HI.out.below hBw;have HE:=zh (h2.pos (q:=p + n) (by have:=HR.out.2.1 (by trivial); omega))
  have HG:=zh (zqaf (zqah hBw (some N)) (zqae _ N 1 (.int .i64 ((p + n:Nat):Int))));obtain ⟨v2',h2,-⟩:=h2;obtain ⟨s0,s1,s2,s3⟩:=h2.reads;obtain ⟨f1,f2⟩:=h2.free;clear h2 hk hBw;go_wp2_with fail;go_ret;exact ⟨⟨_,rfl,rfl⟩,HE.out,HG.out⟩
 ·rw [if_neg he];have he':((e:Int) != 0) = true:=by simp; omega
  go_enter Tryz.func113,Tryz.ntmps113;go_wp2_with fail;refine (HF.out).mono ?_; rintro r w1 ⟨rfl,rfl⟩;go_upto_region 4 with fail;have hk:w.drew.cell? ⟨N,0,none⟩ = some (.slice a b.length cap) ∧ w.drew.cell? ⟨N,1,none⟩ = some (.int .i64 p):=⟨by simp [r0],by simp [r1]⟩
  have hBw:Below w.heap.size w w.drew:=(Below.refl _ _).drew;go_region_held3 (fun w' => w'.cell? ⟨N,0,none⟩ = some (.slice a b.length cap) ∧ w'.cell? ⟨N,1,none⟩ = some (.int .i64 p)) (with_reducible exact hk)
   ((go_at_call 114; refine (HC.out _ hBw).mono ?_; rintro r w2 ⟨rfl,hb2⟩; have hk:=And.intro (zqap hb2 hk.1) (zqap hb2 hk.2); have hBw:=zqaa hBw hb2; clear hb2))
  have HB:=zh hBw;have h2:=HI.out.below hBw;have HE:=zh (h2.err e);have HG:=zh (zqaf (zqah hBw (some N)) (zqae _ N 2 (.int .i64 e)));obtain ⟨v2',h2,-⟩:=h2;obtain ⟨s0,s1,s2,s3⟩:=h2.reads;obtain ⟨f1,f2⟩:=h2.free;clear h2 hk hBw;go_wp2_with fail;go_ret;exact ⟨⟨_,rfl,by rw [HZ.out he]; rfl⟩,HE.out,HG.out⟩
theorem zqq7 (w:World) (v f:Value) (e:Nat) (h:Shut v e w) :
  Calls Tryz.prog 113 #[v,f] w fun r w' => r = .returned (.float .f64 0) ∧ w = w':=by
 have HF:=zh (h.2.2 w (Below.refl _ _));have he:((e:Int) != 0) = true:=by have:=h.1; simp; omega
 clear h;go_enter Tryz.func113,Tryz.ntmps113;go_wp2_with fail;refine (HF.out).mono ?_; rintro r w1 ⟨rfl,rfl⟩;go_wp2_with fail;go_ret;exact ⟨rfl,rfl⟩
theorem zqxy {w w':World} {B E sz n N:Nat} {v:Value} {xs:List Value} (h:w.ownsRow B E sz v n xs) (hg:w.grownBy w' (some N)) (hN:N < B):w'.ownsRow B E sz v n xs:=by
 refine h.kept hg ?_;cases hv:v.ownBlock with
 | none => exact .inl rfl
 | some g => right; intro e; have e2:=Option.some.inj e; have:=(h.lt g hv).1; omega
set_option maxHeartbeats 1000000 in
theorem zquo (w:World) (N:Nat) (b:List Int) (p:Nat) (M:Nat) (most:Int) (h:InAt w N b p 0) (hM:w.cell? ⟨M,0,none⟩ = some (.int .i64 most)) (hm:most ≤ 9223372036854775807) :
  Calls Tryz.prog 111 #[.pointer (some ⟨N,0,none⟩),.func (.func 112) #[] #[.pointer (some ⟨M,0,none⟩)]] w (ReadP (fun v w2 => BOwn w2 w.heap.size v (bN most (b.drop p)).1) w N b p (bN most (b.drop p)).2.1 (bN most (b.drop p)).2.2):=by
 have HF:=zh (zqbq w N b p 0 h);have HI:=zh h;obtain ⟨v,h,hv,ht,hbt,hl,hp⟩:=h;obtain ⟨r0,r1,-,-⟩:=h.reads;have hv2:=hv;obtain ⟨a,cap,rfl,-,-⟩:=hv2;obtain ⟨u,c,hop,hi⟩:=zqfy hv hp;have HC:=zh (fun w1 (h:Below w.heap.size w w1) => zq03 _ (b.drop p) most M w1 (hi.below h) (hbt.drop p) (by simp; omega) (zqap h hM) hm)
 have HR:=zh (zq01 most (hbt.drop p));have hdl:(b.drop p).length = b.length - p:=by simp
 rw [hdl] at HR;unfold ReadP;generalize bN most (b.drop p) = rr at *;obtain ⟨x,n,e⟩:=rr;try unfold ByteP at HC
 simp only at HC HR;clear h hv ht hi hdl hM
 by_cases he:e = 0
 ·subst he;rw [if_pos rfl];have i2:IntKind.i64.wrap ((p:Int) + n) = ((p + n:Nat):Int):=by have:=HR.out.2.1 (by trivial); rw [IntWalk.i64_in _ (by omega)]; omega
  go_enter Tryz.func111,Tryz.ntmps111;go_wp2_with fail;refine (HF.out).mono ?_; rintro r w1 ⟨rfl,rfl⟩;go_upto_region 4 with fail;have hk:w.drew.cell? ⟨N,0,none⟩ = some (.slice a b.length cap) ∧ w.drew.cell? ⟨N,1,none⟩ = some (.int .i64 p):=⟨by simp [r0],by simp [r1]⟩
  have hBw:Below w.heap.size w w.drew:=(Below.refl _ _).drew;go_region_held3 (fun w' => w'.cell? ⟨N,0,none⟩ = some (.slice a b.length cap) ∧ w'.cell? ⟨N,1,none⟩ = some (.int .i64 p)) (with_reducible exact hk)
   ((go_at_call 112; refine (HC.out _ hBw).mono ?_; rintro r w2 ⟨⟨v2,rfl,hv2,-,ho2⟩,hb2⟩; have HV2:=zh (zqbu ho2 hBw.size); clear ho2; obtain ⟨pa,pc,rfl,-,-⟩:=hv2; have hk:=And.intro (zqap hb2 hk.1) (zqap hb2 hk.2); have hBw:=zqaa hBw hb2; clear hb2))
  have HB:=zh hBw;have h2:=HI.out.below hBw;have HE:=zh (h2.pos (q:=p + n) (by have:=HR.out.2.1 (by trivial); omega))
  have HG:=zh (zqaf (zqah hBw (some N)) (zqae _ N 1 (.int .i64 ((p + n:Nat):Int))));have HV3:=zh (zqxy HV2.out (zqae _ N 1 (.int .i64 ((p + n:Nat):Int))) HI.out.lt);obtain ⟨v2',h2,-⟩:=h2;obtain ⟨s0,s1,s2,s3⟩:=h2.reads;obtain ⟨f1,f2⟩:=h2.free;clear h2 hk hBw;go_wp2_with fail;go_ret;exact ⟨⟨_,rfl,HV3.out⟩,HE.out,HG.out⟩
 ·rw [if_neg he];have he':((e:Int) != 0) = true:=by simp; omega
  go_enter Tryz.func111,Tryz.ntmps111;go_wp2_with fail;refine (HF.out).mono ?_; rintro r w1 ⟨rfl,rfl⟩;go_upto_region 4 with fail;have hk:w.drew.cell? ⟨N,0,none⟩ = some (.slice a b.length cap) ∧ w.drew.cell? ⟨N,1,none⟩ = some (.int .i64 p):=⟨by simp [r0],by simp [r1]⟩
  have hBw:Below w.heap.size w w.drew:=(Below.refl _ _).drew;go_region_held3 (fun w' => w'.cell? ⟨N,0,none⟩ = some (.slice a b.length cap) ∧ w'.cell? ⟨N,1,none⟩ = some (.int .i64 p)) (with_reducible exact hk)
   ((go_at_call 112; refine (HC.out _ hBw).mono ?_; rintro r w2 ⟨⟨v2,rfl,hv2,-,ho2⟩,hb2⟩; have HV2:=zh (zqbu ho2 hBw.size); clear ho2; obtain ⟨pa,pc,rfl,-,-⟩:=hv2; have hk:=And.intro (zqap hb2 hk.1) (zqap hb2 hk.2); have hBw:=zqaa hBw hb2; clear hb2))
  have HB:=zh hBw;have h2:=HI.out.below hBw;have HE:=zh (h2.err e);have HG:=zh (zqaf (zqah hBw (some N)) (zqae _ N 2 (.int .i64 e)));obtain ⟨v2',h2,-⟩:=h2;obtain ⟨s0,s1,s2,s3⟩:=h2.reads;obtain ⟨f1,f2⟩:=h2.free;clear h2 hk hBw;go_wp2_with fail;go_ret;exact ⟨⟨_,rfl,by rw [HR.out.2.2 he]; exact own0 _ _⟩,HE.out,HG.out⟩
theorem zqq6 (w:World) (v f:Value) (e:Nat) (h:Shut v e w) :
  Calls Tryz.prog 111 #[v,f] w fun r w' => r = .returned (.slice none 0 0) ∧ w = w':=by
 have HF:=zh (h.2.2 w (Below.refl _ _));have he:((e:Int) != 0) = true:=by have:=h.1; simp; omega
 clear h;go_enter Tryz.func111,Tryz.ntmps111;go_wp2_with fail;refine (HF.out).mono ?_; rintro r w1 ⟨rfl,rfl⟩;go_wp2_with fail;go_ret;exact ⟨rfl,rfl⟩
end Go.Proofs.YtafmghloohhaeaaGreatDoor
namespace Go.Proofs.YtafmghloohhaeaaGreatDoor
set_option maxRecDepth 100000
open Go.RowKit
set_option linter.unusedVariables false
theorem ReadP.from {V:Value → World → Prop} {w w1 w':World} {N:Nat} {b:List Int} {p n e:Nat} {r:Ending} (h:ReadP V w1 N b p n e r w') (hb:Below w.heap.size w w1):ReadP V w N b p n e r w' :=
 ⟨h.1,h.2.1,zqaf (zqah hb (some N)) h.2.2⟩
theorem zqzx (w:World) (N:Nat) (b:List Int) (p:Nat) (most:Int) (h:InAt w N b p 0)  :
  Calls Tryz.prog 61 #[.pointer (some ⟨N,0,none⟩),.int .u64 most] w (ReadP (fun v _ => v = .int .u64 (uN most (getU (b.drop p))).1) w N b p (uN most (getU (b.drop p))).2.1 (uN most (getU (b.drop p))).2.2):=by
 have HB:=zh (zqab w (.cells #[.int .u64 most] 28));have HR:=zh (zqur (w.alloc (.cells #[.int .u64 most] 28)) N b p w.heap.size most (h.below HB.out) (by simp [go_sem]))
 clear h;generalize uN most (getU (b.drop p)) = rr at *;go_enter Tryz.func61,Tryz.ntmps61;go_wp2_with fail;refine (HR.out).mono ?_; intro r w2 hr;have hr:=hr.from HB.out;obtain ⟨⟨v,rfl,rfl⟩,hr2⟩:=hr;have HQ:=zh hr2;clear hr2;go_wp2_with fail;go_ret;exact ⟨⟨_,rfl,rfl⟩,HQ.out⟩
theorem zqw7 (w:World) (v:Value) (e:Nat) (most:Int) (h:Shut v e w) :
  Calls Tryz.prog 61 #[v,.int .u64 most] w fun r w' => r = .returned (.int .u64 0) ∧ Below w.heap.size w w':=by
 have HB:=zh (zqab w (.cells #[.int .u64 most] 28));have HR:=zh (fun f => zqq9 (w.alloc (.cells #[.int .u64 most] 28)) v f e (h.below HB.out))
 clear h;go_enter Tryz.func61,Tryz.ntmps61;go_wp2_with fail;refine (HR.out _).mono ?_; rintro r w2 ⟨rfl,rfl⟩;go_wp2_with fail;go_ret;exact ⟨rfl,HB.out⟩
theorem zqzw (w:World) (N:Nat) (b:List Int) (p:Nat)  (h:InAt w N b p 0)  :
  Calls Tryz.prog 62 #[.pointer (some ⟨N,0,none⟩)] w (ReadP (fun v _ => v = .int .i64 (getI (b.drop p)).1) w N b p (getI (b.drop p)).2.1 (getI (b.drop p)).2.2):=by
 have HB:=zh (Below.refl w.heap.size w);have HR:=zh (zquq w N b p h);clear h;generalize getI (b.drop p) = rr at *;go_enter Tryz.func62,Tryz.ntmps62;go_wp2_with fail;refine (HR.out).mono ?_; intro r w2 hr;have hr:=hr.from HB.out;obtain ⟨⟨v,rfl,rfl⟩,hr2⟩:=hr;have HQ:=zh hr2;clear hr2;go_wp2_with fail;go_ret;exact ⟨⟨_,rfl,rfl⟩,HQ.out⟩
theorem zqw6 (w:World) (v:Value) (e:Nat)  (h:Shut v e w) :
  Calls Tryz.prog 62 #[v] w fun r w' => r = .returned (.int .i64 0) ∧ Below w.heap.size w w':=by
 have HB:=zh (Below.refl w.heap.size w);have HR:=zh (fun f => zqq8 w v f e h)
 clear h;go_enter Tryz.func62,Tryz.ntmps62;go_wp2_with fail;refine (HR.out _).mono ?_; rintro r w2 ⟨rfl,rfl⟩;go_wp2_with fail;go_ret;exact ⟨rfl,HB.out⟩
theorem zqzv (w:World) (N:Nat) (b:List Int) (p:Nat)  (h:InAt w N b p 0)  :
  Calls Tryz.prog 65 #[.pointer (some ⟨N,0,none⟩)] w (ReadP (fun v _ => v = .float .f64 (if (fN (getF (b.drop p))).2.2 = 0 then fromN (fN (getF (b.drop p))).1 else 0)) w N b p (fN (getF (b.drop p))).2.1 (fN (getF (b.drop p))).2.2):=by
 have HB:=zh (Below.refl w.heap.size w);have HR:=zh (zqup w N b p h);clear h;generalize fN (getF (b.drop p)) = rr at *;generalize (if rr.2.2 = 0 then fromN rr.1 else 0) = y at *
 go_enter Tryz.func65,Tryz.ntmps65;go_wp2_with fail;refine (HR.out).mono ?_; intro r w2 hr;have hr:=hr.from HB.out;obtain ⟨⟨v,rfl,rfl⟩,hr2⟩:=hr;have HQ:=zh hr2;clear hr2;go_wp2_with fail;go_ret;exact ⟨⟨_,rfl,rfl⟩,HQ.out⟩
theorem zqw5 (w:World) (v:Value) (e:Nat)  (h:Shut v e w) :
  Calls Tryz.prog 65 #[v] w fun r w' => r = .returned (.float .f64 0) ∧ Below w.heap.size w w':=by
 have HB:=zh (Below.refl w.heap.size w);have HR:=zh (fun f => zqq7 w v f e h)
 clear h;go_enter Tryz.func65,Tryz.ntmps65;go_wp2_with fail;refine (HR.out _).mono ?_; rintro r w2 ⟨rfl,rfl⟩;go_wp2_with fail;go_ret;exact ⟨rfl,HB.out⟩
theorem zqw4 (w:World) (N:Nat) (b:List Int) (p:Nat) (most:Int) (h:InAt w N b p 0) (hm:most ≤ 9223372036854775807) :
  Calls Tryz.prog 64 #[.pointer (some ⟨N,0,none⟩),.int .i64 most] w (ReadP (fun v w2 => BOwn w2 w.heap.size v (bN most (b.drop p)).1) w N b p (bN most (b.drop p)).2.1 (bN most (b.drop p)).2.2):=by
 have HB:=zh (zqab w (.cells #[.int .i64 most] 3));have HR:=zh (zquo (w.alloc (.cells #[.int .i64 most] 3)) N b p w.heap.size most (h.below HB.out) (by simp [go_sem]) hm)
 clear h;generalize bN most (b.drop p) = rr at *;go_enter Tryz.func64,Tryz.ntmps64;go_wp2_with fail;refine (HR.out).mono ?_; intro r w2 hr;have hr:=hr.from HB.out;obtain ⟨⟨v,rfl,ho⟩,hr2⟩:=hr; have HVV:=zh (zqbu ho HB.out.size); obtain ⟨pa,pc,rfl,-,-⟩:=Ints.own ho;have HQ:=zh hr2;clear hr2 ho;go_wp2_with fail;go_ret;exact ⟨⟨_,rfl,HVV.out⟩,HQ.out⟩
theorem zqw3 (w:World) (v:Value) (e:Nat) (most:Int) (h:Shut v e w) :
  Calls Tryz.prog 64 #[v,.int .i64 most] w fun r w' => r = .returned (.slice none 0 0) ∧ Below w.heap.size w w':=by
 have HB:=zh (zqab w (.cells #[.int .i64 most] 3));have HR:=zh (fun f => zqq6 (w.alloc (.cells #[.int .i64 most] 3)) v f e (h.below HB.out))
 clear h;go_enter Tryz.func64,Tryz.ntmps64;go_wp2_with fail;refine (HR.out _).mono ?_; rintro r w2 ⟨rfl,rfl⟩;go_wp2_with fail;go_ret;exact ⟨rfl,HB.out⟩
set_option maxRecDepth 100000
open Go.RowKit
set_option linter.unusedVariables false
end Go.Proofs.YtafmghloohhaeaaGreatDoor
