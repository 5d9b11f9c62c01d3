/- Contracts that the law leans on: Cemc Cemd Celf Ceme. -/
import Derived.Test.YtmnbljijnbhghaaGreatDoorPt02
import Derived.Test.YtmnbljijnbhghaaGreatDoorPt23
import Derived.Test.YtmnbljijnbhghaaGreatDoorPt24
import Derived.Test.YtmnbljijnbhghaaGreatDoorPt26
import Derived.Test.YtmnbljijnbhghaaGreatDoorPt29
import Derived.Test.YtmnbljijnbhghaaGreatDoorPt31
namespace Go.Proofs.YtmnbljijnbhghaaGreatDoor
set_option maxRecDepth 100000
open Go.RowKit Go.Maps
set_option linter.unusedVariables false
def TotP15 (w:World) (l:List Ce) (e:Ending) (w':World):Prop:=∃ I N,e = .returned (.tuple #[CeV (totalE l).2 I N,.int .i64 (totalE l).1]) ∧ CeM w' I N (totalE l).2 ∧ Below w.heap.size w w'
theorem CMap.block {B b:Nat} {w:World} {ms:List Ce} (h:CMap B w b ms):∃ es clock,w.heap[b]? = some (.map es clock):=by
 obtain ⟨D,⟨es,clock,h1,-⟩,-⟩:=h.m;exact ⟨es,clock,h1⟩
theorem CMap.keeps {B b:Nat} {w w':World} {ms:List Ce} (h:CMap B w b ms) (hB:B ≤ w.heap.size) (hg:w.grownBy w' (some b)):Keeps B w w':=by
 obtain ⟨es,clock,h1⟩:=h.block;exact zqk7 hB h.lo h1 hg
theorem CMap.stay {B b C:Nat} {w w':World} {ms:List Ce} {cs:Array Value} {T:TypeId} (h:CMap B w b ms) (hx:w.heap[C]? = some (.cells cs T (0,0))) (hg:w.grownBy w' (some b)):w'.heap[C]? = some (.cells cs T (0,0)):=by
 obtain ⟨es,clock,h1⟩:=h.block;refine (hg.block C (Array.getElem?_eq_some_iff.1 hx).1 fun e => ?_).trans hx
 injection e with e;subst e;rw [hx] at h1;cases h1
theorem zqfc {l:List Ce} {k:Nat} (h:k < l.length):cg (l.map zeroK) k = zeroK (cg l k):=by rw [zqat (by simpa using h),zqat h,List.getElem_map]
theorem zqtj {B b:Nat} {w:World} {ms:List Ce} {c:Ce} (h:CMap B w b ms) (hc:c ∈ ms) (hk:0 ≤ c.key ∧ c.key ≤ 18446744073709551615):∃ I N,CeS B w I N c ∧ (Instr.lookup 81 (.map (some b)) (.int .u64 c.key) false).run Tryz.prog w = .ok (CeV c I N) w:=by
 obtain ⟨D,h1,-,-,h4⟩:=h.m;obtain ⟨I,N,h5,h6⟩:=h4 c hc;obtain ⟨v,ps,h7,h8⟩:=h1.lookup lawU15 Tryz.underlying81 (zeroC15 w) (zqfs (0,0,.slice none 0 0,.slice none 0 0)) (key15 hk);obtain ⟨q0,rfl,e⟩:=zqen h8;have e1:D.atKey (keyV c.key) (.held (rowV (0,0,.slice none 0 0,.slice none 0 0))) = .held (rowV q0):=congrArg Prod.fst e;rw [h5] at e1;injection e1 with e1;exact ⟨I,N,h6,by rw [h7,← e1]⟩
theorem zqik {w:World} {C j:Nat} {u:Value} {cs:Array Value} {T:TypeId} (h:w.heap[C]? = some (.cells cs T (0,0))):∃ cs',(w.setCell ⟨C,j,none⟩ u).heap[C]? = some (.cells cs' T (0,0)):=⟨cs.setIfInBounds j u,by simp [World.setCell,Array.getElem?_modify,h]⟩
theorem zqep {B C j:Nat} {w:World} {u:Value} {cs:Array Value} (h:w.heap[C]? = some (.cells cs 38 (0,0))) (hB:B ≤ C):Keeps B w (w.setCell ⟨C,j,none⟩ u) :=
 ⟨(Below.refl B w).setCell (show B ≤ C from hB) _,fun k cs' T h1 h2 => by
  have hne:C ≠ k:=fun e => by
   subst e;rw [h] at h1;injection h1 with h1;injection h1 with _ h3 _;exact zqic (h3 ▸ h2)
  simp [World.setCell,Array.getElem?_modify,hne,h1]⟩
theorem zqcr {B C:Nat} {w:World} {u0 u1 u2 u3:Value} {cs:Array Value} (h:w.heap[C]? = some (.cells cs 38 (0,0))) (hB:B ≤ C):Keeps B w ((((w.setCell ⟨C,0,none⟩ u0).setCell ⟨C,1,none⟩ u1).setCell ⟨C,2,none⟩ u2).setCell ⟨C,3,none⟩ u3):=by
 obtain ⟨d1,e1⟩:=zqik (j:=0) (u:=u0) h;obtain ⟨d2,e2⟩:=zqik (j:=1) (u:=u1) e1;obtain ⟨d3,e3⟩:=zqik (j:=2) (u:=u2) e2;exact (((zqep h hB).trans (zqep e1 hB)).trans (zqep e2 hB)).trans (zqep e3 hB)
set_option maxHeartbeats 8000000 in
theorem zqnh (w:World) (v:Value) (l:List Ce) (h:Cells w v l) (hs:∀ c ∈ l,Sv 1 c) (hl:l.length ≤ 900) (hT:Tab w) :
  Calls Tryz.prog 16 #[v] w (TotP15 w l):=by
 have hmm:=@run_makeMap Tryz.prog;have HC:=zh h;obtain ⟨a,cap,rfl,-⟩:=id h;have HK0:=zh (hs);have HPut:=zh (fun (wr w1:World) (b:Nat) (ms:List Ce) (k:Nat) (I N:Value) (hm:CMap w.heap.size wr b ms) (hf:Sofar (l.map zeroK) k ms) (hk:k < l.length) (hkk:Keeps w.heap.size w wr) (hb:Below wr.heap.size wr w1) (hc:CeM w I N (cg l k)) =>
  show Calls Tryz.prog 41 #[.map (some b),CeV (zeroK (cg l k)) I N] w1 fun e w' => e = .returned (.int .i64 (withL ms (zeroK (cg l k))).1) ∧ w1.grownBy w' (some b) ∧ Keeps w.heap.size w w' ∧ CMap w.heap.size w1 b ms ∧ ((withL ms (zeroK (cg l k))).1 = 0 → CMap w.heap.size w' b (withL ms (zeroK (cg l k))).2 ∧ Sofar (l.map zeroK) (k + 1) (withL ms (zeroK (cg l k))).2) ∧ ((withL ms (zeroK (cg l k))).1 ≠ 0 → totalE l = ((withL ms (zeroK (cg l k))).1,ce0)) from by
   have hs1:Sv 1 (zeroK (cg l k)):=(hs _ (by rw [zqat hk]; exact List.getElem_mem hk)).key 0 (by decide)
   have hz:=zqfc hk;have hm1:=hm.below hkk.b.size hb;have hsz:w.heap.size ≤ w1.heap.size:=Nat.le_trans hkk.b.size hb.size;have hk1:Keeps w.heap.size w w1:=hkk.trans (zqag hkk.b.size hb);refine (zqre w.heap.size w1 b ms (zeroK (cg l k)) I N hm1 hsz ((zqsf hc.zero).keep hk1) hs1.sm (fun x hx => (hf.v x hx).sm) (hT.call hk1.b) (by have:=hf.n; omega)).mono ?_
   rintro e w2 ⟨rfl,h1,h2⟩;refine ⟨rfl,h2,hk1.trans (hm1.keeps hsz h2),hm1,fun he => ⟨h1 he,?_⟩,fun he => ?_⟩
   ·have:=hf.next (by simpa using hk) (by rw [hz]; exact hs1) (by omega) (by rw [hz]; exact he)
    rwa [hz] at this
   ·have h3:=hf.stop (by simpa using hk) (by rw [hz]; exact he)
    rw [hz] at h3;unfold totalE;rw [if_neg (by rintro rfl; simp at hk),h3,if_neg he])
 have HEnd:=zh (fun (wr:World) (b:Nat) (ms:List Ce) (hm:CMap w.heap.size wr b ms) (hf:Sofar (l.map zeroK) l.length ms) (h0:1 ≤ l.length) =>
  show ∃ a I N,totalE l = (0,a) ∧ a.key = 0 ∧ CeS w.heap.size wr I N a ∧ (Instr.lookup 81 (.map (some b)) (.int .u64 0) false).run Tryz.prog wr = .ok (CeV a I N) wr from by
   obtain ⟨a,rfl,ha⟩:=hf.one (fun c hc => by obtain ⟨x,-,rfl⟩:=List.mem_map.1 hc; rfl) h0 (by simp)
   obtain ⟨I,N,h1,h2⟩:=zqtj hm (List.mem_cons_self ..) (by rw [ha]; decide)
   have h3:=Sofar.end (l:=l.map zeroK) (ms:=[a]) (by simpa using hf)
   refine ⟨a,I,N,?_,ha,h1,by rw [ha] at h2; exact h2⟩
   unfold totalE;rw [if_neg (by rintro rfl; simp at h0),h3,if_pos rfl]
   rfl)
 have HNil:=zh (show l.length = 0 → totalE l = (11,ce0) from fun h => by rw [List.length_eq_zero_iff.1 h]; rfl)
 unfold TotP15;generalize totalE l = R at *;clear hs h;go_enter Tryz.func16,Tryz.ntmps16
 by_cases h0:l.length = 0
 ·have h0':((l.length:Nat):Int) = 0:=by omega
  have hR:=HNil.out h0;subst hR;obtain ⟨r0,r1,r2,r3⟩:=row4 (heap_alloc_new w (.cells #[.int .u64 0,.int .i64 0,.slice none 0 0,.slice none 0 0] 38));go_wp2_with fail;exact bodyPost_ret (v:=.tuple #[CeV ce0 (.slice none 0 0) (.slice none 0 0),.int .i64 11]) (by simp [results,Tryz.results16,go_sem,r0,r1,r2,r3,ce0]) rfl ⟨_,_,rfl,zqfb _,zqab _ _⟩
 ·have h0':¬ ((l.length:Nat):Int) = 0:=by omega
  have hbe:(((l.length:Nat):Int) == 0) = false:=beq_false_of_ne h0';have HM0:=zh (show CMap w.heap.size ((w.alloc (.cells #[.int .u64 0,.int .i64 0,.slice none 0 0,.slice none 0 0] 38)).alloc (.map #[] 0)) (w.heap.size + 1) [] from by
   have:=CMap.made w.heap.size (w.alloc (.cells #[.int .u64 0,.int .i64 0,.slice none 0 0,.slice none 0 0] 38)) (by simp)
   simpa using this)
  have HKp:=zh (zqag (Nat.le_refl w.heap.size) (zqaa (zqab w (.cells #[.int .u64 0,.int .i64 0,.slice none 0 0,.slice none 0 0] 38)) (zqab (w.alloc (.cells #[.int .u64 0,.int .i64 0,.slice none 0 0,.slice none 0 0] 38)) (.map #[] 0))));have HX0:=zh (((zqab (w.alloc (.cells #[.int .u64 0,.int .i64 0,.slice none 0 0,.slice none 0 0] 38)) (.map #[] 0)).block w.heap.size (by simp)).trans (heap_alloc_new w (.cells #[.int .u64 0,.int .i64 0,.slice none 0 0,.slice none 0 0] 38)))
  go_wp2_with fail;go_loopw [15] (fun iv wr => ∃ (k:Nat) (ms:List Ce),k ≤ l.length ∧ iv = .int .i64 k ∧ Hid (CMap w.heap.size wr (w.heap.size + 1) ms) ∧ Hid (Sofar (l.map zeroK) k ms) ∧ Hid (Keeps w.heap.size w wr) ∧ Hid (wr.heap[w.heap.size]? = some (.cells #[.int .u64 0,.int .i64 0,.slice none 0 0,.slice none 0 0] 38 (0,0)))) (fun iv _ => l.length - (intOf iv).toNat)
  case atStart => exact ⟨0,[],Nat.zero_le _,rfl,HM0,zh (Sofar.start _),HKp,HX0⟩
  case round =>
   obtain ⟨k,ms,hk,rfl,HM,HS,HK,HX⟩:=hrel;clear HM0 HKp HX0 HNil
   by_cases hlt:k < l.length
   ·have hlt':(k:Int) < (l.length:Int):=by omega
    obtain ⟨b0,off,rfl,-,I,N,hx⟩:=HC.out.at hlt;obtain ⟨⟨ia,ik,rfl⟩,na,nk,rfl⟩:=hx.m.slices;obtain ⟨d0,d1,d2,d3,hm⟩:=hx;have c0:=cell_later HK.out.b d0;have c1:=cell_later HK.out.b d1;have c2:=cell_later HK.out.b d2;have c3:=cell_later HK.out.b d3;have HP:=zh (fun w1 (h1:Below wr.heap.size wr w1) => HPut.out wr w1 (w.heap.size + 1) ms k _ _ HM.out HS.out hlt HK.out h1 hm)
    clear d0 d1 d2 d3 hm HPut HEnd;go_wp2_with fail;refine (HP.out _ (zqab wr _)).mono ?_; rintro e w2 ⟨rfl,hg,hk2,hm1,hok,hno⟩;have HX2:=zh (hm1.stay (((zqab wr _).block w.heap.size (Array.getElem?_eq_some_iff.1 HX.out).1).trans HX.out) hg);have HK2:=zh hk2;clear HP hg hk2 hm1 HX HM HS c0 c1 c2 c3;generalize (withL ms (zeroK (cg l k))).2 = ms' at *;generalize (withL ms (zeroK (cg l k))).1 = E at *
    by_cases hE:E = 0
    ·obtain ⟨hM2,hS2⟩:=hok hE;have HM2:=zh hM2;have HS2:=zh hS2;subst hE;clear hok hno hM2 hS2;go_wp2_with fail;go_roundw
     case rel => exact ⟨k + 1,ms',by omega,by go_num,HM2,HS2,HK2,HX2⟩
     case measure => simp [intOf]; omega
    ·have hR:=hno hE;subst hR;have hE':¬ (E:Int) = 0:=by omega
     obtain ⟨r0,r1,r2,r3⟩:=row4 HX2.out;have rf:=zqav HX2.out;have hS:=zqan (k':=0) (n':=0) (I':=.slice none 0 0) (N':=.slice none 0 0) HX2.out;have hKf:=zh (zqcr (B:=w.heap.size) (u0:=.int .u64 0) (u1:=.int .i64 0) (u2:=.slice none 0 0) (u3:=.slice none 0 0) HX2.out (Nat.le_refl _));unfold set4 at hS;have HSb:=zh hS;clear hS hok hno;go_wp2_with fail;obtain ⟨⟨q0,q1,q2,q3⟩,-⟩:=zqac HSb.out;exact bodyPost_ret (v:=.tuple #[CeV ce0 (.slice none 0 0) (.slice none 0 0),.int .i64 E]) (by simp [results,Tryz.results16,go_sem,q0,q1,q2,q3,ce0]) rfl ⟨_,_,rfl,zqfb _,(HK2.out.trans hKf.out).b⟩
   ·obtain rfl:k = l.length:=by omega
    have hlt':¬ (l.length:Int) < (l.length:Int):=by omega
    obtain ⟨a1,I,N,rfl,ha,hcs,hlk⟩:=HEnd.out wr (w.heap.size + 1) ms HM.out HS.out (by omega)
    obtain ⟨⟨ia,ik,rfl⟩,na,nk,rfl⟩:=hcs.mem.slices;have HF:=zh hcs;obtain ⟨r0,r1,r2,r3⟩:=row4 HX.out;have rf:=zqav HX.out;clear hcs HPut HEnd HM HS;have hS:=zqan (k':=0) (n':=a1.cnt) (I':=.slice ia a1.is.length ik) (N':=.slice na a1.ns.length nk) HX.out;have hKf:=zh (zqcr (B:=w.heap.size) (u0:=.int .u64 0) (u1:=.int .i64 a1.cnt) (u2:=.slice ia a1.is.length ik) (u3:=.slice na a1.ns.length nk) HX.out (Nat.le_refl _));unfold set4 at hS;have HSb:=zh hS;clear hS;go_wp2_with fail;obtain ⟨⟨q0,q1,q2,q3⟩,-⟩:=zqac HSb.out;exact bodyPost_ret (v:=.tuple #[CeV a1 (.slice ia a1.is.length ik) (.slice na a1.ns.length nk),.int .i64 0]) (by simp [results,Tryz.results16,go_sem,q0,q1,q2,q3,ha]) rfl ⟨_,_,rfl,(HF.out.keep hKf.out).mem,(HK.out.trans hKf.out).b⟩
end Go.Proofs.YtmnbljijnbhghaaGreatDoor
namespace Go.Proofs.YtmnbljijnbhghaaGreatDoor
set_option maxRecDepth 100000
open Go.RowKit
set_option linter.unusedVariables false
def OutAt15 (w wr:World) (l:List Ce) (k:Nat) (v:Value):Prop :=
 (k = 0 ∧ v = .slice none 0 0) ∨ (1 ≤ k ∧ ∃ a I N g,v = .slice (some ⟨g,0,none⟩) 1 1 ∧ wr.heap[g]? = some (.cells (boxV a.key a.cnt I N) 38 (0,0)) ∧ CeS w.heap.size wr I N a ∧ a.key = 0 ∧ Sofar (l.map zeroK) k [a])
theorem zqx2 {a c:Ce} (h:a.key = c.key):withL [a] c = if errJ a c = 0 then (0,[joinC a c]) else (errJ a c,[]):=by
 rw [withL,if_neg (by omega),if_pos h]
theorem zqzp {w V w3:World} {M:Nat} {k n:Int} {I' N' I N:Value} {y:Ce} (hK:Keeps w.heap.size w V) (hX:V.heap[w.heap.size]? = some (.cells #[.int .u64 0,.int .i64 0,.slice none 0 0,.slice none 0 0] 38 (0,0)))
  (hb:Below V.heap.size V w3) (hM:V.heap[M]? = some (.cells (boxV k n I' N') 38 (0,0))) (hMw:w.heap.size < M) (ho:CeOwn w3 V.heap.size I N y) :
  (set4 w3 M y.key y.cnt I N).heap[M]? = some (.cells (boxV y.key y.cnt I N) 38 (0,0)) ∧ CeS w.heap.size (set4 w3 M y.key y.cnt I N) I N y ∧ Keeps w.heap.size w (set4 w3 M y.key y.cnt I N) ∧ (set4 w3 M y.key y.cnt I N).heap[w.heap.size]? = some (.cells #[.int .u64 0,.int .i64 0,.slice none 0 0,.slice none 0 0] 38 (0,0)):=by
 have h3:w3.heap[M]? = some (.cells (boxV k n I' N') 38 (0,0)):=(hb.block M (Array.getElem?_eq_some_iff.1 hM).1).trans hM;have hk4:Keeps w.heap.size w3 (set4 w3 M y.key y.cnt I N):=zqcr h3 (Nat.le_of_lt hMw);have hx3:=(hb.block w.heap.size (Array.getElem?_eq_some_iff.1 hX).1).trans hX;refine ⟨zqan h3,(zqmn (ho.low hK.b.size)).keep hk4,(hK.trans (zqag hK.b.size hb)).trans hk4,?_⟩;have hne:¬ M = w.heap.size:=by omega
 simp [set4,World.setCell,Array.getElem?_modify,hne,hx3]
set_option maxHeartbeats 16000000 in
theorem zqnm (w:World) (v:Value) (l:List Ce) (h:Cells w v l) (hs:∀ c ∈ l,Sv 1 c) (hl:l.length ≤ 900) :
  Calls Tryz.prog 17 #[v] w (TotP15 w l):=by
 have HC:=zh h;obtain ⟨a,cap,rfl,-⟩:=id h;have HSv:=zh (fun k (hk:k < l.length) => show Sv 1 (zeroK (cg l k)) from (hs (cg l k) (by rw [zqat hk]; exact List.getElem_mem hk)).key 0 (by decide))
 have HNil:=zh (show l.length = 0 → totalE l = (11,ce0) from fun h => by rw [List.length_eq_zero_iff.1 h]; rfl)
 have HFirst:=zh (show 0 < l.length → Sofar (l.map zeroK) 1 [zeroK (cg l 0)] from fun h => by
  have:=(Sofar.start (l.map zeroK)).next (by simpa using h) (by rw [zqfc h]; exact (hs _ (by rw [zqat h]; exact List.getElem_mem h)).key 0 (by decide)) (by omega) rfl
  rwa [zqfc h] at this)
 have HStep:=zh (fun (k:Nat) (b:Ce) (hk:k < l.length) (hb:b.key = 0) (hf:Sofar (l.map zeroK) k [b]) =>
  show (errJ b (zeroK (cg l k)) = 0 → Sofar (l.map zeroK) (k + 1) [joinC b (zeroK (cg l k))] ∧ (joinC b (zeroK (cg l k))).key = 0) ∧ (errJ b (zeroK (cg l k)) ≠ 0 → totalE l = (errJ b (zeroK (cg l k)),ce0)) from by
   have hz:=zqfc hk;have hw:=zqx2 (a:=b) (c:=zeroK (cg l k)) hb;refine ⟨fun he => ?_,fun he => ?_⟩
   ·rw [if_pos he] at hw;have h1:=hf.next (by simpa using hk) (by rw [hz]; exact (hs _ (by rw [zqat hk]; exact List.getElem_mem hk)).key 0 (by decide)) (by omega) (by rw [hz,hw])
    rw [hz,hw] at h1;exact ⟨h1,(zqdd he).trans hb⟩
   ·rw [if_neg he] at hw;have h1:=hf.stop (by simpa using hk) (by rw [hz,hw]; exact he)
    rw [hz,hw] at h1;unfold totalE;rw [if_neg (by rintro rfl; simp at hk),h1,if_neg he])
 have HEnd:=zh (fun (b:Ce) (h0:l.length ≠ 0) (hf:Sofar (l.map zeroK) l.length [b]) => show totalE l = (0,b) from by
  have h3:=Sofar.end (l:=l.map zeroK) (ms:=[b]) (by simpa using hf)
  unfold totalE;rw [if_neg (by rintro rfl; simp at h0),h3,if_pos rfl]
  rfl)
 have HJ:=zh (fun w1 (k:Nat) (b:Ce) (I N I' N':Value) (hk:k < l.length) (hf:Sofar (l.map zeroK) k [b]) (hb:CeM w1 I N b) (hc:CeM w1 I' N' (zeroK (cg l k))) =>
  show Calls Tryz.prog 42 #[CeV b I N,CeV (zeroK (cg l k)) I' N'] w1 fun e w' => ∃ I3 N3,e = .returned (.tuple #[CeV (joinC b (zeroK (cg l k))) I3 N3,.int .i64 (errJ b (zeroK (cg l k)))]) ∧ CeOwn w' w1.heap.size I3 N3 (joinC b (zeroK (cg l k))) ∧ Below w1.heap.size w1 w' from by
   have h1:=(hf.v b (List.mem_cons_self ..)).ref;have h2:=(HSv.out k hk).ref;refine (zqov w1 b (zeroK (cg l k)) _ _ _ _ hb hc h1.1 h2.1 h1.2 h2.2).mono ?_;rintro e w2 ⟨y,I3,N3,rfl,h2,h3,h4,h5⟩;obtain rfl:=zqh6 h3 h4;exact ⟨I3,N3,rfl,h2,h5⟩)
 unfold TotP15;generalize totalE l = R at *;clear hs h;go_enter Tryz.func17,Tryz.ntmps17
 by_cases h0:l.length = 0
 ·have h0':((l.length:Nat):Int) = 0:=by omega
  have hR:=HNil.out h0;subst hR;obtain ⟨r0,r1,r2,r3⟩:=row4 (heap_alloc_new w (.cells #[.int .u64 0,.int .i64 0,.slice none 0 0,.slice none 0 0] 38));go_wp2_with fail;exact bodyPost_ret (v:=.tuple #[CeV ce0 (.slice none 0 0) (.slice none 0 0),.int .i64 11]) (by simp [results,Tryz.results17,go_sem,r0,r1,r2,r3,ce0]) rfl ⟨_,_,rfl,zqfb _,zqab _ _⟩
 ·have h0':¬ ((l.length:Nat):Int) = 0:=by omega
  have hbe:(((l.length:Nat):Int) == 0) = false:=beq_false_of_ne h0';have H0:=zh h0;have HKp:=zh (zqag (Nat.le_refl w.heap.size) (zqab w (.cells #[.int .u64 0,.int .i64 0,.slice none 0 0,.slice none 0 0] 38)));have HX0:=zh (heap_alloc_new w (.cells #[.int .u64 0,.int .i64 0,.slice none 0 0,.slice none 0 0] 38));clear h0;go_wp2_with fail;go_loopw [4,5,6] (fun ov ev iv wr => ∃ k:Nat,k ≤ l.length ∧ iv = .int .i64 k ∧ ev = .int .i64 0 ∧ Hid (OutAt15 w wr l k ov) ∧ Hid (Keeps w.heap.size w wr) ∧ Hid (wr.heap[w.heap.size]? = some (.cells #[.int .u64 0,.int .i64 0,.slice none 0 0,.slice none 0 0] 38 (0,0)))) (fun _ _ iv _ => l.length - (intOf iv).toNat)
  case atStart => exact ⟨0,Nat.zero_le _,rfl,rfl,zh (.inl ⟨rfl,rfl⟩),HKp,HX0⟩
  case round =>
   obtain ⟨k,hk,rfl,rfl,HO,HK,HX⟩:=hrel;clear HKp HX0 HNil
   by_cases hlt:k < l.length
   ·have hlt':(k:Int) < (l.length:Int):=by omega
    obtain ⟨b0,off,rfl,-,I,N,hx⟩:=HC.out.at hlt;obtain ⟨⟨ia,ik,rfl⟩,na,nk,rfl⟩:=hx.m.slices;obtain ⟨d0,d1,d2,d3,hm⟩:=hx;have c0:=cell_later HK.out.b d0;have c1:=cell_later HK.out.b d1;have c2:=cell_later HK.out.b d2;have c3:=cell_later HK.out.b d3;have HCs:=zh ((zqsf hm.zero).keep HK.out);have hsz:=HK.out.b.size;clear d0 d1 d2 d3 hm;rcases HO.out with ⟨hk0,rfl⟩ | ⟨hk1,b,I2,N2,g,rfl,hbx,hbs,hb0,hbf⟩
    ·have HF:=zh (show Sofar (l.map zeroK) (k + 1) [zeroK (cg l k)] from by rw [hk0]; exact HFirst.out (by omega))
     clear HO HJ HEnd HStep HFirst hk0;have HX2:=zh (((zqab (wr.alloc (.cells #[.int .u64 0,.int .i64 (cg l k).cnt,.slice ia (cg l k).is.length ik,.slice na (cg l k).ns.length nk] 38)) (.cells #[.int .u64 0,.int .i64 (cg l k).cnt,.slice ia (cg l k).is.length ik,.slice na (cg l k).ns.length nk] 38)).block w.heap.size (by have:=(Array.getElem?_eq_some_iff.1 HX.out).1; simp; omega)).trans (((zqab wr (.cells #[.int .u64 0,.int .i64 (cg l k).cnt,.slice ia (cg l k).is.length ik,.slice na (cg l k).ns.length nk] 38)).block w.heap.size (Array.getElem?_eq_some_iff.1 HX.out).1).trans HX.out))
     have hbb:=zqaa (zqab wr (.cells #[.int .u64 0,.int .i64 (cg l k).cnt,.slice ia (cg l k).is.length ik,.slice na (cg l k).ns.length nk] 38)) (zqab (wr.alloc (.cells #[.int .u64 0,.int .i64 (cg l k).cnt,.slice ia (cg l k).is.length ik,.slice na (cg l k).ns.length nk] 38)) (.cells #[.int .u64 0,.int .i64 (cg l k).cnt,.slice ia (cg l k).is.length ik,.slice na (cg l k).ns.length nk] 38));have HK2:=zh (HK.out.trans (zqag hsz hbb));have HC2:=zh (HCs.out.keep (zqag hsz hbb));have HB2:=zh (show ((wr.alloc (.cells #[.int .u64 0,.int .i64 (cg l k).cnt,.slice ia (cg l k).is.length ik,.slice na (cg l k).ns.length nk] 38)).alloc (.cells #[.int .u64 0,.int .i64 (cg l k).cnt,.slice ia (cg l k).is.length ik,.slice na (cg l k).ns.length nk] 38)).heap[wr.heap.size + 1]? = some (.cells (boxV 0 (cg l k).cnt (.slice ia (cg l k).is.length ik) (.slice na (cg l k).ns.length nk)) 38 (0,0)) from by
      have:=heap_alloc_new (wr.alloc (.cells #[.int .u64 0,.int .i64 (cg l k).cnt,.slice ia (cg l k).is.length ik,.slice na (cg l k).ns.length nk] 38)) (.cells #[.int .u64 0,.int .i64 (cg l k).cnt,.slice ia (cg l k).is.length ik,.slice na (cg l k).ns.length nk] 38);simpa using this)
     clear hbb;go_wp2_with fail;go_roundw
     case rel => exact ⟨k + 1,by omega,by go_num,rfl,zh (.inr ⟨by omega,zeroK (cg l k),_,_,wr.heap.size + 1,rfl,HB2.out,HC2.out,rfl,HF.out⟩),HK2,HX2⟩
     case measure => simp [intOf]; omega
    ·have HS1:=zh ((HStep.out k b hlt hb0 hbf).1);have HS2:=zh ((HStep.out k b hlt hb0 hbf).2);have HJk:=zh (fun w1 I N I' N' h1 h2 => HJ.out w1 k b I N I' N' hlt hbf h1 h2)
     have HBs:=zh hbs;obtain ⟨x0,x1,x2,x3⟩:=row4 hbx;have y0:=cell_later (zqab wr (.cells #[.int .u64 0,.int .i64 (cg l k).cnt,.slice ia (cg l k).is.length ik,.slice na (cg l k).ns.length nk] 38)) x0;have y1:=cell_later (zqab wr (.cells #[.int .u64 0,.int .i64 (cg l k).cnt,.slice ia (cg l k).is.length ik,.slice na (cg l k).ns.length nk] 38)) x1;have y2:=cell_later (zqab wr (.cells #[.int .u64 0,.int .i64 (cg l k).cnt,.slice ia (cg l k).is.length ik,.slice na (cg l k).ns.length nk] 38)) x2;have y3:=cell_later (zqab wr (.cells #[.int .u64 0,.int .i64 (cg l k).cnt,.slice ia (cg l k).is.length ik,.slice na (cg l k).ns.length nk] 38)) x3;have HBW:=zh (zqab wr (.cells #[.int .u64 0,.int .i64 (cg l k).cnt,.slice ia (cg l k).is.length ik,.slice na (cg l k).ns.length nk] 38));have HbW:=zh (heap_alloc_new wr (.cells #[.int .u64 0,.int .i64 (cg l k).cnt,.slice ia (cg l k).is.length ik,.slice na (cg l k).ns.length nk] 38));have hk1':(0:Int) < 1:=by decide
     clear HO HJ HEnd HStep HFirst hbx hbs hbf hb0 x0 x1 x2 x3;have hMw:w.heap.size < wr.heap.size:=(Array.getElem?_eq_some_iff.1 HX.out).1;have HXW:=zh ((HBW.out.block w.heap.size hMw).trans HX.out);have HKW:=zh (HK.out.trans (zqag hsz HBW.out));have HJv:=zh (fun w1 (h1:Below (wr.alloc (.cells #[.int .u64 0,.int .i64 (cg l k).cnt,.slice ia (cg l k).is.length ik,.slice na (cg l k).ns.length nk] 38)).heap.size (wr.alloc (.cells #[.int .u64 0,.int .i64 (cg l k).cnt,.slice ia (cg l k).is.length ik,.slice na (cg l k).ns.length nk] 38)) w1) => HJk.out w1 I2 N2 _ _ (HBs.out.keep (zqag hsz (zqaa HBW.out h1))).mem (HCs.out.keep (zqag hsz (zqaa HBW.out h1))).mem)
     obtain ⟨z0,z1,z2,z3⟩:=row4 HbW.out;have HSt:=zh (fun w3 I N (hb:Below (wr.alloc (.cells #[.int .u64 0,.int .i64 (cg l k).cnt,.slice ia (cg l k).is.length ik,.slice na (cg l k).ns.length nk] 38)).heap.size (wr.alloc (.cells #[.int .u64 0,.int .i64 (cg l k).cnt,.slice ia (cg l k).is.length ik,.slice na (cg l k).ns.length nk] 38)) w3) (ho:CeOwn w3 (wr.alloc (.cells #[.int .u64 0,.int .i64 (cg l k).cnt,.slice ia (cg l k).is.length ik,.slice na (cg l k).ns.length nk] 38)).heap.size I N (joinC b (zeroK (cg l k)))) => zqzp HKW.out HXW.out hb HbW.out hMw ho)
     have HFr:=zh (fun w3 (hb:Below (wr.alloc (.cells #[.int .u64 0,.int .i64 (cg l k).cnt,.slice ia (cg l k).is.length ik,.slice na (cg l k).ns.length nk] 38)).heap.size (wr.alloc (.cells #[.int .u64 0,.int .i64 (cg l k).cnt,.slice ia (cg l k).is.length ik,.slice na (cg l k).ns.length nk] 38)) w3) => And.intro (zqav ((hb.block wr.heap.size (by simp)).trans HbW.out)) (row4 ((hb.block wr.heap.size (by simp)).trans HbW.out)))
     clear HJk hMw HBs HCs;generalize joinC b (zeroK (cg l k)) = y at *;generalize errJ b (zeroK (cg l k)) = E at *;go_upto_region 11 with fail;generalize (wr.alloc (.cells #[.int .u64 0,.int .i64 (cg l k).cnt,.slice ia (cg l k).is.length ik,.slice na (cg l k).ns.length nk] 38)) = V at *;go_cut [5] from 26 to 33 (fun v5 wx => v5 = .int .i64 E ∧ ∃ (p3 q3:Option Addr) (k3 l3:Nat),Hid (wx.heap[wr.heap.size]? = some (.cells (boxV y.key y.cnt (.slice p3 y.is.length k3) (.slice q3 y.ns.length l3)) 38 (0,0)) ∧ CeS w.heap.size wx (.slice p3 y.is.length k3) (.slice q3 y.ns.length l3) y ∧ Keeps w.heap.size w wx ∧ wx.heap[w.heap.size]? = some (.cells #[.int .u64 0,.int .i64 0,.slice none 0 0,.slice none 0 0] 38 (0,0))))
     case first =>
      go_region_law (first
       | (go_simp; go_at_call 42; refine (HJv.out _ (by first | exact (Below.refl _ _).drew | exact Below.refl _ _)).mono ?_; rintro e w3 ⟨I3,N3,rfl,hco,hb3⟩; obtain ⟨⟨p3,k3,rfl⟩,q3,l3,rfl⟩:=hco.slices; have hbW:Below V.heap.size V w3:=zqaw hb3; have hSt:=HSt.out w3 _ _ hbW hco; obtain ⟨zf,t0,t1,t2,t3⟩:=HFr.out w3 hbW))
      all_goals
       go_wp2_with fail;go_meet;exact ⟨rfl,p3,q3,k3,l3,zh hSt⟩
     case rest =>
      obtain ⟨rfl,p3,q3,k3,l3,hC⟩:=hcut;obtain ⟨m0,m1,m2,m3⟩:=row4 hC.out.1;have HX3:=zh hC.out.2.2.2;have HK3:=zh hC.out.2.2.1;have HC3:=zh hC.out.2.1;have hsz3:=hC.out.2.2.1.b.size;clear hC HJv HSt HFr y0 y1 y2 y3 z0 z1 z2 z3 c0 c1 c2 c3
      by_cases hE:E = 0
      ·obtain ⟨hS1,hy0⟩:=HS1.out hE;have HF:=zh hS1;have HY:=zh hy0;subst hE;have HK4:=zh (HK3.out.trans (zqag hsz3 (zqab wc (CeO y (.slice p3 y.is.length k3) (.slice q3 y.ns.length l3)))));have HC4:=zh (HC3.out.keep (zqag hsz3 (zqab wc (CeO y (.slice p3 y.is.length k3) (.slice q3 y.ns.length l3)))));have HX4:=zh (((zqab wc (CeO y (.slice p3 y.is.length k3) (.slice q3 y.ns.length l3))).block w.heap.size (Array.getElem?_eq_some_iff.1 HX3.out).1).trans HX3.out);have HB4:=zh (heap_alloc_new wc (CeO y (.slice p3 y.is.length k3) (.slice q3 y.ns.length l3)));clear hS1 hy0 HS1 HS2;go_wp2_with fail;go_roundw
       case rel => exact ⟨k + 1,by omega,by go_num,rfl,zh (.inr ⟨by omega,y,_,_,wc.heap.size,rfl,HB4.out,HC4.out,HY.out,HF.out⟩),HK4,HX4⟩
       case measure => simp [intOf]; omega
      ·have hR:=HS2.out hE;subst hR;have hE':¬ (E:Int) = 0:=by omega
       obtain ⟨r0,r1,r2,r3⟩:=row4 HX3.out;have rf:=zqav HX3.out;have hS:=zqan (k':=0) (n':=0) (I':=.slice none 0 0) (N':=.slice none 0 0) HX3.out;have hKf:=zh (zqcr (B:=w.heap.size) (u0:=.int .u64 0) (u1:=.int .i64 0) (u2:=.slice none 0 0) (u3:=.slice none 0 0) HX3.out (Nat.le_refl _));unfold set4 at hS;have HSb:=zh hS;clear hS HS1 HS2;go_wp2_with fail;obtain ⟨⟨q0,q1,q2,q3'⟩,-⟩:=zqac HSb.out;exact bodyPost_ret (v:=.tuple #[CeV ce0 (.slice none 0 0) (.slice none 0 0),.int .i64 E]) (by simp [results,Tryz.results17,go_sem,q0,q1,q2,q3',ce0]) rfl ⟨_,_,rfl,zqfb _,(HK3.out.trans hKf.out).b⟩
   ·obtain rfl:k = l.length:=by omega
    have hlt':¬ (l.length:Int) < (l.length:Int):=by omega
    rcases HO.out with ⟨hz,-⟩ | ⟨hk1,b,I2,N2,g,rfl,hbx,hbs,hb0,hbf⟩
    ·exact absurd hz H0.out
    ·have hR:=HEnd.out b H0.out hbf;subst hR;obtain ⟨⟨ia,ik,rfl⟩,na,nk,rfl⟩:=hbs.mem.slices;obtain ⟨c0,c1,c2,c3⟩:=row4 hbx;obtain ⟨r0,r1,r2,r3⟩:=row4 HX.out;have rf:=zqav HX.out;have HF:=zh hbs;have hS:=zqan (k':=b.key) (n':=b.cnt) (I':=.slice ia b.is.length ik) (N':=.slice na b.ns.length nk) HX.out;have hKf:=zh (zqcr (B:=w.heap.size) (u0:=.int .u64 b.key) (u1:=.int .i64 b.cnt) (u2:=.slice ia b.is.length ik) (u3:=.slice na b.ns.length nk) HX.out (Nat.le_refl _));unfold set4 at hS;have HSb:=zh hS;clear hS hbs hbf hbx HO HJ HEnd HStep HFirst hb0;go_wp2_with fail;obtain ⟨⟨q0,q1,q2,q3⟩,-⟩:=zqac HSb.out;exact bodyPost_ret (v:=.tuple #[CeV b (.slice ia b.is.length ik) (.slice na b.ns.length nk),.int .i64 0]) (by simp [results,Tryz.results17,go_sem,q0,q1,q2,q3]) rfl ⟨_,_,rfl,(HF.out.keep hKf.out).mem,(HK.out.trans hKf.out).b⟩
def rightL (S:Sc) (m:Int) (l:List Ce):Bool:=decide (checkL S = 0 ∧ m ≤ fullL S.ds) && (risingB l && (List.range l.length).all fun i => rightC S m (cg l i))
theorem zqfz {S:Sc} {m:Int} {l:List Ce}:rightL S m l = true ↔ (checkL S = 0 ∧ m ≤ fullL S.ds) ∧ risingB l = true ∧ ∀ i,i < l.length → rightC S m (cg l i) = true:=by
 simp [rightL]
theorem zqlm {S:Sc} {m:Int} {l:List Ce} (h:¬ ((checkL S = 0 ∧ m ≤ fullL S.ds) ∧ risingB l = true ∧ ∀ i,i < l.length → rightC S m (cg l i) = true)):rightL S m l = false:=by
 cases e:rightL S m l with
 | false => rfl
 | true => exact absurd (zqfz.1 e) h
set_option maxHeartbeats 8000000 in
theorem zqgo (w:World) (D I M V v:Value) (S:Sc) (m:Int) (l:List Ce) (h:Sch4 w D I M V S) (hw:SWf S) (h':Cells w v l) (hl:LsW l) (m0:0 ≤ m) (m1:m ≤ 4294967295) :
  Calls Tryz.prog 13 #[SchV D I M V,.int .u32 m,v] w fun e w' => e = .returned (.bool (rightL S m l)) ∧ Below w.heap.size w w':=by
 have HB:=zh (zqab w (SchO D I M V));have HX:=zh (zqau w D I M V);have HK:=zh (fun w1 (hb:Below w.heap.size w w1) => zqfu w1 D I M V S m (h.below hb) hw m0 m1)
 have HP:=zh (fun w1 (hb:Below w.heap.size w w1) => zqoq w1 v l (h'.below hb))
 have HRc:=zh (fun w1 P Q k (hb:Below w.heap.size w w1) (hk:k < l.length) (hm:CeM w1 P Q (cg l k)) => zqrf w1 D I M V P Q S m (cg l k) (h.below hb) hw hm (hl.cg hk) m0 m1)
 have HC:=zh h';have HY:=zh (@zqfz S m l);have HN:=zh (@zqlm S m l);obtain ⟨⟨a1,c1,rfl⟩,⟨a2,c2,rfl⟩,⟨a3,c3,rfl⟩,a4,c4,rfl⟩:=h.slices;obtain ⟨a,cap,rfl,-,hmx,-⟩:=h';generalize rightL S m l = R at *;clear h hw hl m0 m1;go_enter Tryz.func13,Tryz.ntmps13;go_upto_region 1 with fail;generalize w.alloc (SchO (.slice a1 S.ds.length c1) (.slice a2 S.is.length c2) (.slice a3 S.ns.length c3) (.slice a4 S.vs.length c4)) = W at *;obtain ⟨x0,x1,x2,x3⟩:=HX.out.reads;go_wp2_with fail;refine (HK.out _ HB.out).mono ?_; rintro e w1 ⟨rfl,hb⟩;have HB1:=zh (zqaa HB.out hb);have HX1:=zh (HX.out.below hb);clear hb HK x0 x1 x2 x3 HX HB
 by_cases hk:checkL S = 0 ∧ m ≤ fullL S.ds
 rotate_left
 ·rw [if_neg hk,decide_eq_false hk];have hR:=HN.out (fun q => hk q.1)
  subst hR;clear hk HN HY HRc HP;go_wp2_with fail;go_ret;exact ⟨rfl,HB1.out⟩
 rw [if_pos hk,decide_eq_true hk];have HKk:=zh hk;clear hk;generalize keysL S.ds m S.ds.length = K at *;go_wp2_with fail;refine (HP.out _ HB1.out).mono ?_; rintro e w2 ⟨rfl,hb⟩;have HB2:=zh (zqaa HB1.out hb);have HX2:=zh (HX1.out.below hb);clear hb HP HX1 HB1;cases hri:risingB l with
 | false =>
  have hR:=HN.out (fun q => by rw [hri] at q; cases q.2.1)
  subst hR;clear HN HY HRc;go_wp2_with fail;go_ret;exact ⟨rfl,HB2.out⟩
 | true =>
  have HY2:=zh (fun q => HY.out.2 ⟨HKk.out,hri,q⟩)
  have HN2:=zh (fun k (hk:k < l.length) (e:rightC S m (cg l k) = false) => HN.out (fun q => by have:=q.2.2 k hk; rw [e] at this; cases this))
  clear HY HN hri HKk;go_wp2_with fail;go_loopw [26] (fun iv wr => ∃ k:Nat,k ≤ l.length ∧ iv = .int .i64 k ∧ Hid (Below w.heap.size w wr ∧ Box wr w.heap.size (.slice a1 S.ds.length c1) (.slice a2 S.is.length c2) (.slice a3 S.ns.length c3) (.slice a4 S.vs.length c4)) ∧ Hid (∀ j,j < k → rightC S m (cg l j) = true)) (fun iv _ => l.length - (intOf iv).toNat)
  case atStart => exact ⟨0,Nat.zero_le _,rfl,zh ⟨HB2.out,HX2.out⟩,zh (fun j hj => by omega)⟩
  case round =>
   obtain ⟨k,hk,rfl,HS,HJ⟩:=hrel
   by_cases hlk:k < l.length
   ·have hlk':(k:Int) < (l.length:Int):=by omega
    have hle:Hid (k + 1 ≤ l.length):=zh (by omega)
    obtain ⟨b,off,rfl,-,P,Q,hx⟩:=(HC.out.below HS.out.1).at hlk;have hb3:=zqab wr (CeO (cg l k) P Q);have HXr:=zh (HS.out.2.below hb3);have HBr:=zh (zqaa HS.out.1 hb3);have HCr:=zh (HRc.out _ P Q k HBr.out hlk (hx.m.below hb3));have HJ2:=zh (fun (e:rightC S m (cg l k) = true) => show ∀ j,j < k + 1 → rightC S m (cg l j) = true from fun j hj => if e2:j = k then by subst e2; exact e else HJ.out j (by omega))
    have HN3:=zh (HN2.out k hlk);obtain ⟨⟨p,d1,rfl⟩,q,d2,rfl⟩:=hx.m.slices;obtain ⟨f0,f1,f2,f3,-⟩:=hx;clear hb3 HS;generalize cg l k = c at *;obtain ⟨c0,cc1,cc2,cc3⟩:=c
    dsimp only at f0 f1 f2 f3
    obtain ⟨x0,x1,x2,x3⟩:=HXr.out.reads;go_wp2_with fail;refine (HCr.out).mono ?_; rintro e w3 ⟨rfl,hb⟩;have HB3:=zh (zqaa HBr.out hb);have HX3:=zh (HXr.out.below hb);clear hb HCr HXr HBr x0 x1 x2 x3;generalize rightC S m ⟨c0,cc1,cc2,cc3⟩ = T at *;cases T with
    | true =>
     have HJ4:=zh (HJ2.out rfl);go_wp2_with fail;go_roundw
     case rel => exact ⟨k + 1,hle.out,by go_num,zh ⟨HB3.out,HX3.out⟩,HJ4⟩
     case measure => simp [intOf]; omega
    | false =>
     have hR:=HN3.out rfl;subst hR;go_wp2_with fail;go_ret;exact ⟨rfl,HB3.out⟩
   ·have:k = l.length:=by omega
    subst this;have hR:=HY2.out HJ.out;subst hR;go_wp2_with fail;go_ret;exact ⟨rfl,HS.out.1⟩
end Go.Proofs.YtmnbljijnbhghaaGreatDoor
namespace Go.Proofs.YtmnbljijnbhghaaGreatDoor
set_option maxRecDepth 100000
open Go.RowKit Go.Maps
set_option linter.unusedVariables false
theorem zqxb {w wr w1:World} {b:Nat} {cs ms:List Ce} {k:Nat} {I N:Value} (hm:CMap w.heap.size wr b ms) (hf:Sofar cs k ms) (hk:k < cs.length) (hv:Sv 1 (cg cs k)) (hl:cs.length ≤ 900) (hkk:Keeps w.heap.size w wr) (hb:Below wr.heap.size wr w1) (hc:CeM w1 I N (cg cs k)) (hT:Tab w) :
  Calls Tryz.prog 41 #[.map (some b),CeV (cg cs k) I N] w1 fun e w' => e = .returned (.int .i64 (withL ms (cg cs k)).1) ∧ w1.grownBy w' (some b) ∧ Keeps w.heap.size w w' ∧ CMap w.heap.size w1 b ms ∧ ((withL ms (cg cs k)).1 = 0 → CMap w.heap.size w' b (withL ms (cg cs k)).2 ∧ Sofar cs (k + 1) (withL ms (cg cs k)).2) ∧ ((withL ms (cg cs k)).1 ≠ 0 → foldC [] cs = ((withL ms (cg cs k)).1,[])):=by
 have hm1:=hm.below hkk.b.size hb;have hsz:w.heap.size ≤ w1.heap.size:=Nat.le_trans hkk.b.size hb.size;have hk1:Keeps w.heap.size w w1:=hkk.trans (zqag hkk.b.size hb);refine (zqe5 w.heap.size w1 b ms (cg cs k) I N hm1 hsz hc hv.sm (fun x hx => (hf.v x hx).sm) (hT.call hk1.b) (by have:=hf.n; omega)).mono ?_
 rintro e w2 ⟨rfl,h1,h2⟩;exact ⟨rfl,h2,hk1.trans (hm1.keeps hsz h2),hm1,fun he => ⟨h1 he,hf.next hk hv (by omega) he⟩,fun he => hf.stop hk he⟩
def rkC (S:Sc) (a b:Int) (c:Ce):Ce:=⟨downL S a b c.key,c.cnt,c.is,c.ns⟩
noncomputable def rollE (S:Sc) (a b:Int) (l:List Ce):Nat × List Ce:=if rightL S a l = true then if subM b a = true then foldC [] (l.map (rkC S a b)) else (11,[]) else (1,[])
theorem zqv2 {S:Sc} {a b q:Int} (b0:0 ≤ b) (b1:b ≤ 4294967295):0 ≤ downL S a b q ∧ downL S a b q ≤ 18446744073709551615:=by
 by_cases h:downE S a b q = 0
 ·obtain ⟨n1,hs,h3⟩:=zqv3 h;obtain ⟨n2,n3⟩:=zqg5 n1;obtain ⟨-,hz⟩:=zqeb n2;have hr:=zqqk (p:=bitG a) (p':=bitG b) (zqdg hz) (fun j _ => (zqg8 b0 b1).1 hs j) q
  have hl:downL S a b q = downG (dz S.ds) (bitG a) (bitG b) S.ds.length q:=by unfold downL; rw [if_pos h]
  have hk:=zqh8 S.ds b S.ds.length;have hkr:=zqcs b hz S.ds.length (Nat.le_refl _);have hpr:=zqc4 hz S.ds.length (Nat.le_refl _);omega
 ·unfold downL;rw [if_neg h]
  decide
theorem zqmo {f:Ce → Ce} {l:List Ce} {k:Nat} (h:k < l.length):cg (l.map f) k = f (cg l k):=by rw [zqat (by simpa using h),zqat h,List.getElem_map]
theorem zqvm {w:World} {C:Nat} {k n k':Int} {I N:Value} {T:TypeId} (h:w.heap[C]? = some (.cells (boxV k n I N) T (0,0))):(w.setCell ⟨C,0,none⟩ (.int .u64 k')).heap[C]? = some (.cells (boxV k' n I N) T (0,0)):=by
 simp [World.setCell,Array.getElem?_modify,h]
def RollP (w:World) (R:Nat × List Ce) (e:Ending) (w':World):Prop:=∃ r ps,e = .returned (.tuple #[r,.int .i64 R.1]) ∧ CsRow w.heap.size w' r ps ∧ ps.map cellOf = R.2 ∧ Below w.heap.size w w'
theorem zqbt {w w':World} {n:Nat} (hb:Below w.heap.size w w'):RollP w (n,[]) (.returned (.tuple #[.slice none 0 0,.int .i64 n])) w':=⟨_,[],rfl,CsRow.nil _ _,rfl,hb⟩
theorem zqhh {w w':World} {B b C:Nat} {ms:List Ce} {u0 u1 u2 u3:Value} (h:Box w C u0 u1 u2 u3) (hm:CMap B w b ms) (hg:w.grownBy w' (some b)):Box w' C u0 u1 u2 u3:=hm.stay h hg
set_option maxHeartbeats 8000000 in
theorem zquc (w:World) (D I M V v:Value) (S:Sc) (a b:Int) (l:List Ce) (h:Sch4 w D I M V S) (hw:SWf S) (h':Cells w v l) (hs:∀ c ∈ l,Sv 1 c) (hl:l.length ≤ 900) (hT:Tab w) (a0:0 ≤ a) (a1:a ≤ 4294967295) (b0:0 ≤ b) (b1:b ≤ 4294967295) :
  Calls Tryz.prog 27 #[SchV D I M V,.int .u32 a,.int .u32 b,v] w (RollP w (rollE S a b l)):=by
 have hmm:=@run_makeMap Tryz.prog;have HB:=zh (zqab w (SchO D I M V));have HX:=zh (zqau w D I M V);have HRt:=zh (fun w1 (hb:Below w.heap.size w w1) => zqgo w1 D I M V v S a l (h.below hb) hw (h'.below hb) (fun c hc => (hs c hc).1) a0 a1)
 have HDn:=zh (fun w1 k (hb:Below w.heap.size w w1) (hk:k < l.length) => zqv1 w1 D I M V S a b (cg l k).key (h.below hb) hw a0 a1 b0 b1 (hs (cg l k) (by rw [zqat hk]; exact List.getElem_mem hk)).1.key.1 (hs (cg l k) (by rw [zqat hk]; exact List.getElem_mem hk)).1.key.2)
 have HPut:=zh (fun (wr w1:World) (bk:Nat) (ms:List Ce) (k:Nat) (I N:Value) (hm:CMap w.heap.size wr bk ms) (hf:Sofar (l.map (rkC S a b)) k ms) (hk:k < l.length) (hkk:Keeps w.heap.size w wr) (hb:Below wr.heap.size wr w1) (hc:CeS w.heap.size w1 I N (rkC S a b (cg l k))) => by
  have h1:=@zqxb w wr w1 bk (l.map (rkC S a b)) ms k I N hm hf (by simpa using hk) (by rw [zqmo hk]; exact (hs (cg l k) (by rw [zqat hk]; exact List.getElem_mem hk)).key _ (zqv2 b0 b1)) (by simpa using hl) hkk hb (by rw [zqmo hk]; exact hc.mem) hT
  rw [zqmo hk] at h1;exact h1)
 have HLs:=zh (fun (w1:World) (bk:Nat) (ms:List Ce) (hm:CMap w.heap.size w1 bk ms) (hz:w.heap.size ≤ w1.heap.size) (hn:ms.length ≤ 100000) => zqlj w.heap.size w1 bk ms hm hz hn)
 have HC:=zh h';have hsub:=zqnr b0 b1 a0 a1;have HEnd:=zh (fun (ms:List Ce) (hf:Sofar (l.map (rkC S a b)) l.length ms) => Sofar.end (l:=l.map (rkC S a b)) (ms:=ms) (by simpa using hf))
 obtain ⟨⟨a1',c1,rfl⟩,⟨a2,c2,rfl⟩,⟨a3,c3,rfl⟩,a4,c4,rfl⟩:=h.slices;obtain ⟨p,cap,rfl,-⟩:=h'
 by_cases hr:rightL S a l = true
 rotate_left
 ·have hR:rollE S a b l = (1,[]):=if_neg hr;rw [hR];rw [eq_false_of_ne_true hr] at HRt;clear hR hr HPut HLs HDn HEnd hs h hw;go_enter Tryz.func27,Tryz.ntmps27;obtain ⟨x0,x1,x2,x3⟩:=HX.out.reads;go_wp2_with fail;refine (HRt.out _ HB.out).mono ?_; rintro e w1 ⟨rfl,hb⟩;have HF:=zh (zqbt (n:=1) (zqaa HB.out hb));clear hb x0 x1 x2 x3;go_wp2_with fail;go_ret2;exact HF.out
 by_cases hs2:subM b a = true
 rotate_left
 ·have hR:rollE S a b l = (11,[]):=by unfold rollE; rw [if_pos hr,if_neg hs2]
  rw [hR];rw [hr] at HRt;rw [eq_false_of_ne_true hs2] at hsub;clear hR hr hs2 HPut HLs HDn HEnd hs h hw;go_enter Tryz.func27,Tryz.ntmps27;obtain ⟨x0,x1,x2,x3⟩:=HX.out.reads;go_wp2_with fail;refine (HRt.out _ HB.out).mono ?_; rintro e w1 ⟨rfl,hb⟩;have HF:=zh (zqbt (n:=11) (zqaa HB.out hb));clear hb x0 x1 x2 x3;go_wp2_with fail;go_ret2;exact HF.out
 have hR:rollE S a b l = foldC [] (l.map (rkC S a b)):=by unfold rollE; rw [if_pos hr,if_pos hs2]
 rw [hR];rw [hr] at HRt;rw [hs2] at hsub;clear hR hr hs2 hs h hw;generalize foldC [] (l.map (rkC S a b)) = R at *;go_enter Tryz.func27,Tryz.ntmps27;obtain ⟨x0,x1,x2,x3⟩:=HX.out.reads;go_wp2_with fail;refine (HRt.out _ HB.out).mono ?_; rintro e w1 ⟨rfl,hb⟩;have HB1:=zh (zqaa (zqaa HB.out hb) (zqab w1 (.map #[] 0)));have HX1:=zh ((HX.out.below hb).below (zqab w1 (.map #[] 0)));have HM0:=zh (CMap.made w.heap.size w1 (Nat.le_trans HB.out.size hb.size));clear hb x0 x1 x2 x3 HX HB HRt;have hsz1:w.heap.size ≤ (w1.alloc (.map #[] 0)).heap.size:=HB1.out.size;have HKp:=zh (zqag (Nat.le_refl w.heap.size) HB1.out);go_wp2_with fail;generalize w1.heap.size = bk at *;go_loopw [26] (fun iv wr => ∃ (k:Nat) (ms:List Ce),k ≤ l.length ∧ iv = .int .i64 k ∧ Hid (CMap w.heap.size wr bk ms) ∧ Hid (Sofar (l.map (rkC S a b)) k ms) ∧ Hid (Keeps w.heap.size w wr) ∧ Hid (Box wr w.heap.size (.slice a1' S.ds.length c1) (.slice a2 S.is.length c2) (.slice a3 S.ns.length c3) (.slice a4 S.vs.length c4))) (fun iv _ => l.length - (intOf iv).toNat)
 case atStart => exact ⟨0,[],Nat.zero_le _,rfl,HM0,zh (Sofar.start _),HKp,HX1⟩
 case round =>
  obtain ⟨k,ms,hk,rfl,HM,HS,HK,HX⟩:=hrel;clear HM0 HKp HX1 HB1
  by_cases hlt:k < l.length
  ·have hlt':(k:Int) < (l.length:Int):=by omega
   obtain ⟨bb,off,rfl,-,I,N,hx⟩:=HC.out.at hlt;obtain ⟨⟨ia,ik,rfl⟩,na,nk,rfl⟩:=hx.m.slices;obtain ⟨d0,d1,d2,d3,hm⟩:=hx;have f0:=cell_later HK.out.b d0;have f1:=cell_later HK.out.b d1;have f2:=cell_later HK.out.b d2;have f3:=cell_later HK.out.b d3;have HBr:=zh (zqab wr (CeO (cg l k) (.slice ia (cg l k).is.length ik) (.slice na (cg l k).ns.length nk)));have HXr:=zh (HX.out.below HBr.out);have HCb:=zh (heap_alloc_new wr (CeO (cg l k) (.slice ia (cg l k).is.length ik) (.slice na (cg l k).ns.length nk)));have HDk:=zh (HDn.out _ k (zqaa HK.out.b HBr.out) hlt);have HP:=zh (fun w1 (h1:Below wr.heap.size wr w1) (h2:CeS w.heap.size w1 (.slice ia (cg l k).is.length ik) (.slice na (cg l k).ns.length nk) (rkC S a b (cg l k))) => HPut.out wr w1 bk ms k _ _ HM.out HS.out hlt HK.out h1 h2)
   have HCs:=zh (fun w1 (h1:Below wr.heap.size wr w1) => show CeS w.heap.size w1 (.slice ia (cg l k).is.length ik) (.slice na (cg l k).ns.length nk) (rkC S a b (cg l k)) from fun w2 k2 => by
    have h3:=hm.below ((HK.out.trans (zqag HK.out.b.size h1)).trans k2).b;exact ⟨h3.i,h3.n⟩)
   obtain ⟨x0,x1,x2,x3⟩:=HXr.out.reads;obtain ⟨z0,z1,z2,z3⟩:=row4 HCb.out;clear d0 d1 d2 d3 hm HPut HEnd HLs HDn;have hrk:rkC S a b (cg l k) = ⟨downL S a b (cg l k).key,(cg l k).cnt,(cg l k).is,(cg l k).ns⟩:=rfl;go_wp2_with fail;refine HDk.out.mono ?_; rintro e w3 ⟨rfl,hb3⟩;have hC3:=(hb3.block wr.heap.size (by simp)).trans HCb.out
   have hC4:=zqvm (k':=downL S a b (cg l k).key) hC3;have HB4:=zh (show Below wr.heap.size wr (w3.setCell ⟨wr.heap.size,0,none⟩ (.int .u64 (downL S a b (cg l k).key))) from (zqaa HBr.out hb3).setCell (Nat.le_refl _) _);have HX4:=zh (HX.out.below HB4.out);have HP4:=zh (HP.out _ HB4.out (HCs.out _ HB4.out));obtain ⟨t0,t1,t2,t3⟩:=row4 hC3;have tf:=zqav hC3;obtain ⟨u0,u1,u2,u3⟩:=row4 hC4;clear hC3 hC4 hb3 HP HCs HDk x0 x1 x2 x3 z0 z1 z2 z3 f0 f1 f2 f3 HXr HBr HCb HX;go_wp2_with fail;refine HP4.out.mono ?_; rintro e w4 ⟨rfl,hg,hk2,hm1,hok,hno⟩;have HK2:=zh hk2;have HX5:=zh (zqhh HX4.out hm1 hg);clear HP4 hg hk2 hm1 HX4 HM HS u0 u1 u2 u3 t0 t1 t2 t3 tf HK HB4;generalize (withL ms (rkC S a b (cg l k))).2 = ms' at *;generalize (withL ms (rkC S a b (cg l k))).1 = E at *
   by_cases hE:E = 0
   ·obtain ⟨hM2,hS2⟩:=hok hE;have HM2:=zh hM2;have HS2:=zh hS2;subst hE;clear hok hno hM2 hS2;go_wp2_with fail;go_roundw
    case rel => exact ⟨k + 1,ms',by omega,by go_num,HM2,HS2,HK2,HX5⟩
    case measure => simp [intOf]; omega
   ·have hR:=hno hE;subst hR;have hE':¬ (E:Int) = 0:=by omega
    have HF:=zh (zqbt (n:=E) HK2.out.b);clear hok hno;go_wp2_with fail;go_ret2;exact HF.out
  ·obtain rfl:k = l.length:=by omega
   have hlt':¬ (l.length:Int) < (l.length:Int):=by omega
   have hR:=HEnd.out ms HS.out;subst hR;have HL:=zh (HLs.out wr bk ms HM.out HK.out.b.size (by have:=HS.out.n; omega))
   clear HEnd HLs HPut HDn;go_wp2_with fail;refine HL.out.mono ?_; rintro e w3 ⟨r,ps,rfl,h1,h2,h3⟩;have HF:=zh (And.intro h1 (And.intro h2 (HK.out.b.trans h3)));clear h1 h2 h3;go_wp2_with fail;go_ret2;exact ⟨r,ps,rfl,HF.out.1,HF.out.2.1,HF.out.2.2⟩
end Go.Proofs.YtmnbljijnbhghaaGreatDoor
