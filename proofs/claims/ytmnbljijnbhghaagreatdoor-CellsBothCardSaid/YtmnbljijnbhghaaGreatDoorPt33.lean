/- Contracts that the law leans on: Cemf Cemg Celv Cemh. -/
import Derived.BigQuiet
import Derived.Test.YtmnbljijnbhghaaGreatDoorPt02
import Derived.Test.YtmnbljijnbhghaaGreatDoorPt28
import Derived.Test.YtmnbljijnbhghaaGreatDoorPt30
import Derived.Test.YtmnbljijnbhghaaGreatDoorPt32
namespace Go.Proofs.YtmnbljijnbhghaaGreatDoor
set_option maxRecDepth 100000
open Go.RowKit Go.Maps
set_option linter.unusedVariables false
theorem OC.eq {S:Sc} {m:Int} {f:Fa} {c d:Ce} (h:OC S m f c) (k:OC S m f d):c = d:=by
 obtain ⟨k1,n1,i1,r1⟩:=c;obtain ⟨k2,n2,i2,r2⟩:=d;have e1:=h.key.trans k.key.symm;have e2:=h.cnt.trans k.cnt.symm;have e3:i1 = i2:=by
  apply List.ext_getElem (h.li.trans k.li.symm);intro j h1 h2;have hj:j < f.is.length:=Nat.lt_of_lt_of_eq h1 h.li;have:=(h.is j hj).same (k.is j hj);simp only at this
  rwa [zqaq h1,zqaq h2] at this
 have e4:r1 = r2:=by
  apply List.ext_getElem (h.ln.trans k.ln.symm);intro j h1 h2;have hj:j < f.ns.length:=Nat.lt_of_lt_of_eq h1 h.ln;have:=(h.ns j hj).same (k.ns j hj);simp only at this
  rwa [zqap h1,zqap h2] at this
 simp only at e1 e2;rw [e1,e2,e3,e4]
open Classical in
noncomputable def celC (S:Sc) (m:Int) (f:Fa):Ce:=if h:∃ c,OC S m f c then Classical.choose h else ce0
theorem zqka {S:Sc} {m:Int} {f:Fa} {c:Ce} (h:OC S m f c):c = celC S m f:=by
 unfold celC;rw [dif_pos ⟨c,h⟩];exact h.eq (Classical.choose_spec (⟨c,h⟩:∃ c,OC S m f c))
noncomputable def foldF (S:Sc) (m:Int):List Ce → List Fa → Nat × List Ce
 | acc,[] => (0,acc)
 | acc,f :: l => if oneE S m f = 0 then if (withL acc (celC S m f)).1 = 0 then foldF S m (withL acc (celC S m f)).2 l else ((withL acc (celC S m f)).1,[]) else (oneE S m f,[])
noncomputable def foldE (S:Sc) (m:Int) (l:List Fa):Nat × List Ce:=if checkL S = 0 then if m ≤ fullL S.ds then if l.length ≤ 200 then foldF S m [] l else (3,[]) else (11,[]) else (1,[])
theorem OC.sv {S:Sc} {m:Int} {f:Fa} {c:Ce} (h:OC S m f c) (hf:FaWf f) (h0:oneE S m f = 0):Sv 1 c:=by
 have hw:=h.w hf h0;have hs:=h.short hf h0;refine ⟨hw,⟨hs.li,hs.ln,fun k hk => ⟨by have:=hs.sq k hk; omega,?_⟩⟩,fun k hk => ?_⟩
 ·have h4:=(zqas (hw.wg hk).sq).2;have h5:=Nat.pow_le_pow_right (n:=4294967296) (by decide) (hs.sq k hk)
  have e1:((4294967296 ^ (wg c.is k).sq.length:Nat):Int) = 4294967296 ^ (wg c.is k).sq.length:=by rw [Int.natCast_pow]; rfl
  have e2:((4294967296 ^ 20:Nat):Int) = 4294967296 ^ 20:=by rw [Int.natCast_pow]; rfl
  have h6:(4294967296:Int) ^ (wg c.is k).sq.length ≤ 4294967296 ^ 20:=by rw [← e1,← e2]; exact Int.ofNat_le.2 h5
  rw [Int.natCast_one,Int.one_mul];exact Int.le_of_lt (Int.lt_of_lt_of_le h4 h6)
 ·obtain ⟨a,-,-,-,hl,he⟩:=(h.ns k (by rw [← h.ln]; exact hk)).sum
  rw [he,zqhz];omega
def fg (l:List Fa) (i:Nat):Fa:=l.getD i ⟨[],[],[]⟩
theorem zqi2 {l:List Fa} {i:Nat} (h:i < l.length):fg l i = l[i]:=by simp [fg,h]
theorem Facts.at15 {w:World} {a:Option Addr} {n cap:Nat} {l:List Fa} (h:Facts w (.slice a n cap) l) {i:Nat} (hi:i < l.length) :
  ∃ b off,a = some ⟨b,off,none⟩ ∧ ∃ C I N,(w.cell? ⟨b,off + i * 3,none⟩ = some C ∧ w.cell? ⟨b,off + i * 3 + 1,none⟩ = some I ∧ w.cell? ⟨b,off + i * 3 + 2,none⟩ = some N) ∧ Fact3 w C I N (fg l i):=by
 obtain ⟨a',cap',e,-,-,h3⟩:=h;injection e with e1 e2 e3;subst e1;rcases h3 with h3 | ⟨b,off,rfl,hlt,hc⟩
 ·rw [h3] at hi; cases hi
 ·obtain ⟨C,I,N,h1,h2⟩:=hc i hi;exact ⟨b,off,rfl,C,I,N,h1,by rw [zqi2 hi]; exact h2⟩
structure Fofar (S:Sc) (m:Int) (l:List Fa) (R:Nat × List Ce) (k:Nat) (ms:List Ce):Prop where
 f:R = foldF S m ms (l.drop k)
 v:∀ x ∈ ms,Sv (k + 1) x
 n:ms.length ≤ k
theorem Fofar.step {S:Sc} {m:Int} {l:List Fa} {R:Nat × List Ce} {k:Nat} {ms:List Ce} (h:Fofar S m l R k ms) (hk:k < l.length) :
  R = if oneE S m (fg l k) = 0 then if (withL ms (celC S m (fg l k))).1 = 0 then foldF S m (withL ms (celC S m (fg l k))).2 (l.drop (k + 1)) else ((withL ms (celC S m (fg l k))).1,[]) else (oneE S m (fg l k),[]):=by
 have:=h.f;rw [List.drop_eq_getElem_cons hk,foldF,← zqi2 hk] at this;exact this
theorem Fofar.next {S:Sc} {m:Int} {l:List Fa} {R:Nat × List Ce} {k:Nat} {ms:List Ce} (h:Fofar S m l R k ms) (hk:k < l.length) (h1:oneE S m (fg l k) = 0) (hv:Sv 1 (celC S m (fg l k))) (hl:k ≤ 900) (e:(withL ms (celC S m (fg l k))).1 = 0):Fofar S m l R (k + 1) (withL ms (celC S m (fg l k))).2:=by
 have h2:=h.step hk;rw [if_pos h1,if_pos e] at h2;refine ⟨h2,fun x hx => zqko h.v hv (by omega) (by omega) x hx,?_⟩
 have:=zqn1 ms (celC S m (fg l k));have:=h.n;omega
theorem Fofar.end {S:Sc} {m:Int} {l:List Fa} {R:Nat × List Ce} {ms:List Ce} (h:Fofar S m l R l.length ms):R = (0,ms):=by
 have:=h.f;rw [List.drop_length] at this;exact this
set_option maxHeartbeats 8000000 in
theorem zqt9 (w:World) (D I M V v:Value) (S:Sc) (m:Int) (l:List Fa) (h:Sch4 w D I M V S) (hw:SWf S) (h':Facts w v l) (hf:∀ f ∈ l,FaWf f) (hT:Tab w) (hT2:Tab64 w) (m0:0 ≤ m) (m1:m ≤ 4294967295) :
  Calls Tryz.prog 22 #[SchV D I M V,.int .u32 m,v] w (RollP w (foldE S m l)):=by
 have hmm:=@run_makeMap Tryz.prog;have HB:=zh (zqab w (SchO D I M V));have HX:=zh (zqau w D I M V);have HCk:=zh (fun w1 (hb:Below w.heap.size w w1) => zqej w1 D I M V S (h.below hb) hw)
 have HKy:=zh (fun w1 (hb:Below w.heap.size w w1) => zqfu w1 D I M V S m (h.below hb) hw m0 m1)
 have HOn:=zh (fun w1 C J X k (hb:Below w.heap.size w w1) (hk:k < l.length) (hx:Fact3 w1 C J X (fg l k)) => zqw7 w1 D I M V C J X S m (fg l k) (h.below hb) hw hx (hf _ (by rw [zqi2 hk]; exact List.getElem_mem hk)) m0 m1 (hT.call hb) (hT2.call hb))
 have HSv:=zh (fun k (hk:k < l.length) (h0:oneE S m (fg l k) = 0) (ho:OC S m (fg l k) (celC S m (fg l k))) => ho.sv (hf _ (by rw [zqi2 hk]; exact List.getElem_mem hk)) h0)
 have HTb:=zh hT;have HLs:=zh (fun (w1:World) (bk:Nat) (ms:List Ce) (hm:CMap w.heap.size w1 bk ms) (hz:w.heap.size ≤ w1.heap.size) (hn:ms.length ≤ 100000) => zqlj w.heap.size w1 bk ms hm hz hn)
 have HC:=zh h';obtain ⟨⟨a1,c1,rfl⟩,⟨a2,c2,rfl⟩,⟨a3,c3,rfl⟩,a4,c4,rfl⟩:=h.slices;obtain ⟨p,cap,rfl,-⟩:=h'
 by_cases hck:checkL S = 0
 rotate_left
 ·have hR:foldE S m l = (1,[]):=if_neg hck;rw [hR];have hck':¬ ((checkL S:Nat):Int) = 0:=by omega
  generalize checkL S = E0 at *;clear hR hck HLs HOn HSv HKy h hw hf;go_enter Tryz.func22,Tryz.ntmps22;obtain ⟨x0,x1,x2,x3⟩:=HX.out.reads;go_wp2_with fail;refine (HCk.out _ HB.out).mono ?_; rintro e w1 ⟨rfl,hb⟩;have HF:=zh (zqbt (n:=1) (zqaa HB.out hb));clear hb x0 x1 x2 x3;go_wp2_with fail;go_ret2;exact HF.out
 by_cases hmk:m ≤ fullL S.ds
 rotate_left
 ·have hR:foldE S m l = (11,[]):=by unfold foldE; rw [if_pos hck,if_neg hmk]
  rw [hR];have hno:¬ (checkL S = 0 ∧ m ≤ fullL S.ds):=fun q => hmk q.2
  rw [hck] at HCk;rw [if_neg hno,decide_eq_false hno] at HKy;clear hR hck hno hmk HLs HOn HSv h hw hf;go_enter Tryz.func22,Tryz.ntmps22;obtain ⟨x0,x1,x2,x3⟩:=HX.out.reads;go_wp2_with fail;refine (HCk.out _ HB.out).mono ?_; rintro e w1 ⟨rfl,hb⟩;have HB1:=zh (zqaa HB.out hb);obtain ⟨y0,y1,y2,y3⟩:=(HX.out.below hb).reads;clear hb x0 x1 x2 x3;go_wp2_with fail;refine (HKy.out _ HB1.out).mono ?_; rintro e w2 ⟨rfl,hb⟩;have HF:=zh (zqbt (n:=11) (zqaa HB1.out hb));clear hb y0 y1 y2 y3;go_wp2_with fail;go_ret2;exact HF.out
 have hyes:checkL S = 0 ∧ m ≤ fullL S.ds:=⟨hck,hmk⟩;rw [if_pos hyes,decide_eq_true hyes] at HKy;generalize keysL S.ds m S.ds.length = K at *
 by_cases hln:l.length ≤ 200
 rotate_left
 ·have hR:foldE S m l = (3,[]):=by unfold foldE; rw [if_pos hck,if_pos hmk,if_neg hln]
  rw [hR];rw [hck] at HCk;have hln':(200:Int) < ((l.length:Nat):Int):=by omega
  clear hR hck hyes hmk hln HLs HOn HSv h hw hf;go_enter Tryz.func22,Tryz.ntmps22;obtain ⟨x0,x1,x2,x3⟩:=HX.out.reads;go_wp2_with fail;refine (HCk.out _ HB.out).mono ?_; rintro e w1 ⟨rfl,hb⟩;have HB1:=zh (zqaa HB.out hb);obtain ⟨y0,y1,y2,y3⟩:=(HX.out.below hb).reads;clear hb x0 x1 x2 x3;go_wp2_with fail;refine (HKy.out _ HB1.out).mono ?_; rintro e w2 ⟨rfl,hb⟩;have HF:=zh (zqbt (n:=3) (zqaa HB1.out hb));clear hb y0 y1 y2 y3;go_wp2_with fail;go_ret2;exact HF.out
 have hR:foldE S m l = foldF S m [] l:=by unfold foldE; rw [if_pos hck,if_pos hmk,if_pos hln]
 rw [hR];rw [hck] at HCk;have HS0:=zh (show Fofar S m l (foldF S m [] l) 0 [] from ⟨rfl,(fun x hx => by cases hx),Nat.le_refl _⟩)
 have hln':¬ (200:Int) < ((l.length:Nat):Int):=by omega
 clear hR hck hyes hmk h hw hf;generalize foldF S m [] l = R at *;go_enter Tryz.func22,Tryz.ntmps22;obtain ⟨x0,x1,x2,x3⟩:=HX.out.reads;go_wp2_with fail;refine (HCk.out _ HB.out).mono ?_; rintro e w1 ⟨rfl,hb⟩;have HB1:=zh (zqaa HB.out hb);have HX1:=zh (HX.out.below hb);obtain ⟨y0,y1,y2,y3⟩:=HX1.out.reads;clear hb x0 x1 x2 x3;go_wp2_with fail;refine (HKy.out _ HB1.out).mono ?_; rintro e w2 ⟨rfl,hb⟩;have HB2:=zh (zqaa (zqaa HB1.out hb) (zqab w2 (.map #[] 0)));have HX2:=zh ((HX1.out.below hb).below (zqab w2 (.map #[] 0)));have HM0:=zh (CMap.made w.heap.size w2 (Nat.le_trans HB1.out.size hb.size));have HKp:=zh (zqag (Nat.le_refl w.heap.size) HB2.out);clear hb y0 y1 y2 y3 HX HB HX1 HB1 HCk HKy;go_wp2_with fail;generalize w2.heap.size = bk at *;go_loopw [33] (fun iv wr => ∃ (k:Nat) (ms:List Ce),k ≤ l.length ∧ iv = .int .i64 k ∧ Hid (CMap w.heap.size wr bk ms) ∧ Hid (Fofar S m l R k ms) ∧ Hid (Keeps w.heap.size w wr) ∧ Hid (Box wr w.heap.size (.slice a1 S.ds.length c1) (.slice a2 S.is.length c2) (.slice a3 S.ns.length c3) (.slice a4 S.vs.length c4))) (fun iv _ => l.length - (intOf iv).toNat)
 case atStart => exact ⟨0,[],Nat.zero_le _,rfl,HM0,HS0,HKp,HX2⟩
 case round =>
  obtain ⟨k,ms,hk,rfl,HM,HS,HK,HX⟩:=hrel;clear HM0 HKp HX2 HB2 HS0
  by_cases hlt:k < l.length
  ·have hlt':(k:Int) < (l.length:Int):=by omega
   obtain ⟨bb,off,rfl,C,J,X,⟨d0,d1,d2⟩,hx⟩:=HC.out.at15 hlt;obtain ⟨⟨ja,jc,rfl⟩,⟨ka,kc,rfl⟩,la,lc,rfl⟩:=hx.slices;have f0:=cell_later HK.out.b d0;have f1:=cell_later HK.out.b d1;have f2:=cell_later HK.out.b d2;have hFx:=hx.below HK.out.b;have HFx:=zh hFx;have HBr:=zh (zqab wr (.cells #[.slice ja (fg l k).cs.length jc,.slice ka (fg l k).is.length kc,.slice la (fg l k).ns.length lc] 73));have HXr:=zh (HX.out.below HBr.out);obtain ⟨g0,g1,g2⟩:=row3 (heap_alloc_new wr (.cells #[.slice ja (fg l k).cs.length jc,.slice ka (fg l k).is.length kc,.slice la (fg l k).ns.length lc] 73));have HOk:=zh (HOn.out _ _ _ _ k (zqaa HK.out.b HBr.out) hlt (hFx.below HBr.out));have HSt:=zh (HS.out.step hlt);have HPk:=zh (fun W4 I N (h1:Below wr.heap.size wr W4) (hc:CeM W4 I N (celC S m (fg l k))) (h0:oneE S m (fg l k) = 0) (ho:OC S m (fg l k) (celC S m (fg l k))) =>
    show Calls Tryz.prog 41 #[.map (some bk),CeV (celC S m (fg l k)) I N] W4 fun e w' => e = .returned (.int .i64 (withL ms (celC S m (fg l k))).1) ∧ W4.grownBy w' (some bk) ∧ Keeps w.heap.size w w' ∧ CMap w.heap.size W4 bk ms ∧ ((withL ms (celC S m (fg l k))).1 = 0 → CMap w.heap.size w' bk (withL ms (celC S m (fg l k))).2 ∧ Fofar S m l R (k + 1) (withL ms (celC S m (fg l k))).2) ∧ ((withL ms (celC S m (fg l k))).1 ≠ 0 → R = ((withL ms (celC S m (fg l k))).1,[])) from by
     have hm1:=HM.out.below HK.out.b.size h1;have hsz:w.heap.size ≤ W4.heap.size:=Nat.le_trans HK.out.b.size h1.size;have hk1:Keeps w.heap.size w W4:=HK.out.trans (zqag HK.out.b.size h1);have hv:=HSv.out k hlt h0 ho;refine (zqe5 w.heap.size W4 bk ms (celC S m (fg l k)) I N hm1 hsz hc hv.sm (fun x hx => (HS.out.v x hx).sm) (HTb.out.call hk1.b) (by have:=HS.out.n; omega)).mono ?_
     rintro e w5 ⟨rfl,p1,p2⟩;refine ⟨rfl,p2,hk1.trans (hm1.keeps hsz p2),hm1,fun he => ⟨p1 he,HS.out.next hlt h0 hv (by omega) he⟩,fun he => ?_⟩
     have h9:=HSt.out;rw [if_pos h0,if_neg he] at h9;exact h9)
   obtain ⟨x0,x1,x2,x3⟩:=HXr.out.reads;clear d0 d1 d2 hx hFx HFx HS HOn HSv HLs HTb HM;go_wp2_with fail;refine HOk.out.mono ?_; rintro e w3 ⟨c,I,N,rfl,hcm,hoc,hce,hb3⟩;obtain ⟨⟨ia,ik,rfl⟩,na,nk,rfl⟩:=hcm.slices;have hB3:=zqaa HBr.out hb3
   by_cases hz:oneE S m (fg l k) = 0
   ·have ho:=hoc hz;obtain rfl:=zqka ho;have HB4:=zh (zqaa hB3 (zqab w3 (CeO (celC S m (fg l k)) (.slice ia (celC S m (fg l k)).is.length ik) (.slice na (celC S m (fg l k)).ns.length nk))));have HX4:=zh (HX.out.below HB4.out);have HP4:=zh (HPk.out _ _ _ HB4.out (hcm.below (zqab _ _)) hz ho);clear hcm hoc hce hb3 hB3 ho HPk HOk HSt x0 x1 x2 x3 g0 g1 g2 f0 f1 f2 HXr HBr HX;generalize celC S m (fg l k) = c at *;go_wp2_with fail;refine HP4.out.mono ?_; rintro e w4 ⟨rfl,hg,hk2,hm1,hok,hno⟩;have HK2:=zh hk2;have HX5:=zh (zqhh HX4.out hm1 hg);clear HP4 hg hk2 hm1 HX4 HK HB4;generalize (withL ms c).2 = ms' at *;generalize (withL ms c).1 = E at *
    by_cases hE:E = 0
    ·obtain ⟨hM2,hS2⟩:=hok hE;have HM2:=zh hM2;have HS2:=zh hS2;subst hE;clear hok hno hM2 hS2;go_wp2_with fail;go_roundw
     case rel => exact ⟨k + 1,ms',by omega,by go_num,HM2,HS2,HK2,HX5⟩
     case measure => simp [intOf]; omega
    ·have hR:=hno hE;subst hR;have hE':¬ (E:Int) = 0:=by omega
     have HF:=zh (zqbt (n:=E) HK2.out.b);clear hok hno;go_wp2_with fail;go_ret2;exact HF.out
   ·have hR:=HSt.out;rw [if_neg hz] at hR;subst hR;obtain rfl:=hce hz;have hz':¬ ((oneE S m (fg l k):Nat):Int) = 0:=by omega
    have HF:=zh (zqbt (n:=oneE S m (fg l k)) (zqaa HK.out.b (zqaa hB3 (zqab w3 (CeO ce0 (.slice ia ce0.is.length ik) (.slice na ce0.ns.length nk))))));clear hcm hoc hce hb3 hB3 HPk HOk HSt x0 x1 x2 x3 g0 g1 g2 f0 f1 f2 HXr HBr HX;go_wp2_with fail;go_ret2;exact HF.out
  ·obtain rfl:k = l.length:=by omega
   have hlt':¬ (l.length:Int) < (l.length:Int):=by omega
   have hR:=HS.out.end;subst hR;have HL:=zh (HLs.out wr bk ms HM.out HK.out.b.size (by have:=HS.out.n; omega))
   clear HLs HOn HSv;go_wp2_with fail;refine HL.out.mono ?_; rintro e w3 ⟨r,ps,rfl,h1,h2,h3⟩;have HF:=zh (And.intro h1 (And.intro h2 (HK.out.b.trans h3)));clear h1 h2 h3;go_wp2_with fail;go_ret2;exact ⟨r,ps,rfl,HF.out.1,HF.out.2.1,HF.out.2.2⟩
end Go.Proofs.YtmnbljijnbhghaaGreatDoor
namespace Go.Proofs.YtmnbljijnbhghaaGreatDoor
set_option maxRecDepth 100000
open Go.RowKit
set_option linter.unusedVariables false
def exU:Sc:=⟨[(⟨#[97]⟩,2)],[],[],[]⟩
def f15A:Fa:=⟨[1],[],[]⟩
def f15B:Fa:=⟨[0],[],[]⟩
theorem zqms:oneE exU 1 f15A = 0:=by decide +kernel
theorem zqwd:oneE exU 1 f15B = 0:=by decide +kernel
theorem zqwa:ofL exU 1 f15A.cs = 1:=by decide +kernel
theorem zqwc:ofL exU 1 f15B.cs = 0:=by decide +kernel
theorem zqpf:FaWf f15A:=⟨(by intro x hx; simp [f15A] at hx; omega),(fun x hx => nomatch hx),(fun x hx => nomatch hx),by decide,by decide,by decide⟩
theorem zqyk:FaWf f15B:=⟨(by intro x hx; simp [f15B] at hx; omega),(fun x hx => nomatch hx),(fun x hx => nomatch hx),by decide,by decide,by decide⟩
theorem zqmr:celC exU 1 f15A = ⟨1,1,[],[]⟩:=(zqka (show OC exU 1 f15A ⟨1,1,[],[]⟩ from ⟨by rw [zqwa],rfl,rfl,rfl,(fun k hk => absurd hk (Nat.not_lt_zero k)),(fun k hk => absurd hk (Nat.not_lt_zero k))⟩)).symm
theorem zqwb:celC exU 1 f15B = ⟨0,1,[],[]⟩:=(zqka (show OC exU 1 f15B ⟨0,1,[],[]⟩ from ⟨by rw [zqwc],rfl,rfl,rfl,(fun k hk => absurd hk (Nat.not_lt_zero k)),(fun k hk => absurd hk (Nat.not_lt_zero k))⟩)).symm
theorem zqjn {k n m:Int} (h:fitB (n + m) = true):errJ ⟨k,n,[],[]⟩ ⟨k,m,[],[]⟩ = 0 ∧ joinC ⟨k,n,[],[]⟩ ⟨k,m,[],[]⟩ = ⟨k,n + m,[],[]⟩:=by
 have e:errJ ⟨k,n,[],[]⟩ ⟨k,m,[],[]⟩ = 0:=by
  unfold errJ;rw [if_pos ⟨rfl,rfl,rfl⟩,if_pos ⟨h,fun k hk => absurd hk (Nat.not_lt_zero _)⟩]
  rfl
 exact ⟨e,(zqh6 (fun _ => show JC ⟨k,n,[],[]⟩ ⟨k,m,[],[]⟩ ⟨k,n + m,[],[]⟩ from ⟨rfl,rfl,rfl,rfl,fun k hk => absurd hk (Nat.not_lt_zero k),fun k hk => absurd hk (Nat.not_lt_zero k)⟩) (fun q => absurd e q)).symm⟩
theorem zqyh:foldE exU 1 [f15A,f15B,f15A] = (0,[⟨0,1,[],[]⟩,⟨1,2,[],[]⟩]):=by
 unfold foldE;rw [if_pos (by decide +kernel),if_pos (by decide +kernel),if_pos (by decide)]
 obtain ⟨j1,j2⟩:=zqjn (k:=1) (n:=1) (m:=1) (by decide)
 have w1:withL [] (⟨1,1,[],[]⟩:Ce) = (0,[⟨1,1,[],[]⟩]):=rfl;have w2:withL [⟨1,1,[],[]⟩] (⟨0,1,[],[]⟩:Ce) = (0,[⟨0,1,[],[]⟩,⟨1,1,[],[]⟩]):=by rw [withL,if_neg (by decide),if_neg (by decide)]
 have w3:withL [⟨0,1,[],[]⟩,⟨1,1,[],[]⟩] (⟨1,1,[],[]⟩:Ce) = (0,[⟨0,1,[],[]⟩,⟨1,2,[],[]⟩]):=by
  have w4:withL [⟨1,1,[],[]⟩] (⟨1,1,[],[]⟩:Ce) = (0,[⟨1,2,[],[]⟩]):=by
   rw [withL,if_neg (by decide),if_pos (by decide),if_pos j1,j2]; rfl
  rw [withL,if_pos (by decide),w4,if_pos rfl]
 rw [foldF,if_pos zqms,zqmr,w1,if_pos rfl,foldF,if_pos zqwd,zqwb,w2,if_pos rfl,foldF,if_pos zqms,zqmr,w3,if_pos rfl,foldF]
theorem zqyi:rollE exU 1 0 [⟨0,1,[],[]⟩,⟨1,2,[],[]⟩] = (0,[⟨0,3,[],[]⟩]):=by
 unfold rollE;rw [if_pos (by decide +kernel),if_pos (by decide +kernel)]
 have d0:downL exU 1 0 0 = 0:=by decide +kernel
 have d1:downL exU 1 0 1 = 0:=by decide +kernel
 obtain ⟨j1,j2⟩:=zqjn (k:=0) (n:=1) (m:=2) (by decide)
 have e:([⟨0,1,[],[]⟩,⟨1,2,[],[]⟩]:List Ce).map (rkC exU 1 0) = [⟨0,1,[],[]⟩,⟨0,2,[],[]⟩]:=by
  rw [List.map_cons,List.map_cons,List.map_nil,rkC,rkC,d0,d1]
 have w1:withL [] (⟨0,1,[],[]⟩:Ce) = (0,[⟨0,1,[],[]⟩]):=rfl;have w2:withL [⟨0,1,[],[]⟩] (⟨0,2,[],[]⟩:Ce) = (0,[⟨0,3,[],[]⟩]):=by
  rw [withL,if_neg (by decide),if_pos (by decide),if_pos j1,j2]; rfl
 rw [e,foldC,w1,if_pos rfl,foldC,w2,if_pos rfl,foldC]
theorem zqnd {k n:Int} (hk:0 ≤ k ∧ k ≤ 18446744073709551615) (hn:I64 n):Sv 1 ⟨k,n,[],[]⟩ :=
 ⟨⟨hk,hn,(fun x hx => nomatch hx),(fun x hx => nomatch hx)⟩,⟨Nat.zero_le _,Nat.zero_le _,fun k hk => absurd hk (Nat.not_lt_zero k)⟩,fun k hk => absurd hk (Nat.not_lt_zero k)⟩
theorem zqss:SWf exU:=by
 refine ⟨?_,?_,?_,?_⟩
 ·intro d h;simp only [exU,List.mem_cons,List.not_mem_nil,or_false] at h;subst h; decide
 ·intro s h;simp only [exU,List.not_mem_nil] at h
 ·intro s h;simp only [exU,List.not_mem_nil] at h
 ·intro s h;simp only [exU,List.not_mem_nil] at h
theorem zqyj (w:World):Sch4 (w.alloc (.cells #[.string ⟨#[97]⟩,.int .i64 2] 68)) (.slice (some ⟨w.heap.size,0,none⟩) 1 1) (.slice none 0 0) (.slice none 0 0) (.slice none 0 0) exU :=
 ⟨zqv9 w w.heap.size 68 rfl,⟨none,0,rfl,by simp [exU],by simp [exU],.inl rfl⟩,⟨none,0,rfl,by simp [exU],by simp [exU],.inl rfl⟩,⟨none,0,rfl,by simp [exU],.inl rfl⟩⟩
def pg (ps:List (Value × Value × Ce)) (i:Nat):Value × Value × Ce:=ps.getD i (.slice none 0 0,.slice none 0 0,ce0)
theorem zqz9 {ps:List (Value × Value × Ce)} {i:Nat} (h:i < ps.length):pg ps i = ps[i]:=by simp [pg,h]
theorem pg_cg (ps:List (Value × Value × Ce)) (i:Nat):cg (ps.map cellOf) i = (pg ps i).2.2:=by
 unfold cg pg;rw [List.getD_eq_getElem?_getD,List.getD_eq_getElem?_getD,List.getElem?_map];cases ps[i]? <;> rfl
theorem CsRow.at {B n cap i:Nat} {w:World} {a:Option Addr} {ps:List (Value × Value × Ce)} (h:CsRow B w (.slice a n cap) ps) (hi:i < ps.length) :
  ∃ g,a = some ⟨g,0,none⟩ ∧ w.cell? ⟨g,i * 4,none⟩ = some (.int .u64 (pg ps i).2.2.key) ∧ w.cell? ⟨g,i * 4 + 1,none⟩ = some (.int .i64 (pg ps i).2.2.cnt) ∧ w.cell? ⟨g,i * 4 + 2,none⟩ = some (pg ps i).1 ∧ w.cell? ⟨g,i * 4 + 3,none⟩ = some (pg ps i).2.1:=by
 have ho:=h.o;obtain ⟨a',c',e⟩:=h.any;injection e with e1 e2 e3;subst e1 e2 e3;rcases ho.2 with ⟨e,h0⟩ | ⟨g,cap',cur,e,-⟩
 ·omega
 ·injection e with e1 e2 e3;subst e1;have hc:=fun j (hj:j < 4) => (World.ownsRow.cellAt ho (i * 4 + j) (by omega)).trans (zqcn ps i j hi hj)
  rw [zqz9 hi];exact ⟨g,rfl,hc 0 (by decide),hc 1 (by decide),hc 2 (by decide),hc 3 (by decide)⟩
theorem facts15 (W:World):Facts ((((W.alloc (.cells #[.int .i64 1] 3)).alloc (.cells #[.int .i64 0] 3)).alloc (.cells #[.int .i64 1] 3)).alloc (.cells #[.slice (some ⟨W.heap.size,0,none⟩) 1 1,.slice none 0 0,.slice none 0 0,.slice (some ⟨W.heap.size + 1,0,none⟩) 1 1,.slice none 0 0,.slice none 0 0,.slice (some ⟨W.heap.size + 1 + 1,0,none⟩) 1 1,.slice none 0 0,.slice none 0 0] 73))
  (.slice (some ⟨W.heap.size + 1 + 1 + 1,0,none⟩) 3 3) [f15A,f15B,f15A] ∧
  Below W.heap.size W ((((W.alloc (.cells #[.int .i64 1] 3)).alloc (.cells #[.int .i64 0] 3)).alloc (.cells #[.int .i64 1] 3)).alloc (.cells #[.slice (some ⟨W.heap.size,0,none⟩) 1 1,.slice none 0 0,.slice none 0 0,.slice (some ⟨W.heap.size + 1,0,none⟩) 1 1,.slice none 0 0,.slice none 0 0,.slice (some ⟨W.heap.size + 1 + 1,0,none⟩) 1 1,.slice none 0 0,.slice none 0 0] 73)):=by
 have i1:=zqkj (k:=.i64) (w:=W) (x:=1) (T:=3) rfl;have b1:=zqab W (.cells #[.int .i64 1] 3);obtain ⟨W1,hW1⟩:∃ V,W.alloc (.cells #[.int .i64 1] 3) = V:=⟨_,rfl⟩
 have z1:W1.heap.size = W.heap.size + 1:=by rw [← hW1]; simp
 rw [hW1] at i1 b1 ⊢;have i2:=zqkj (k:=.i64) (w:=W1) (x:=0) (T:=3) z1;have b2:=zqab W1 (.cells #[.int .i64 0] 3);obtain ⟨W2,hW2⟩:∃ V,W1.alloc (.cells #[.int .i64 0] 3) = V:=⟨_,rfl⟩
 have z2:W2.heap.size = W.heap.size + 1 + 1:=by rw [← hW2]; simp [z1]
 rw [hW2] at i2 b2 ⊢;have i3:=zqkj (k:=.i64) (w:=W2) (x:=1) (T:=3) z2;have b3:=zqab W2 (.cells #[.int .i64 1] 3);obtain ⟨W3,hW3⟩:∃ V,W2.alloc (.cells #[.int .i64 1] 3) = V:=⟨_,rfl⟩
 have z3:W3.heap.size = W.heap.size + 1 + 1 + 1:=by rw [← hW3]; simp [z2]
 rw [hW3] at i3 b3 ⊢;have b4:=zqab W3 (.cells #[.slice (some ⟨W.heap.size,0,none⟩) 1 1,.slice none 0 0,.slice none 0 0,.slice (some ⟨W.heap.size + 1,0,none⟩) 1 1,.slice none 0 0,.slice none 0 0,.slice (some ⟨W.heap.size + 1 + 1,0,none⟩) 1 1,.slice none 0 0,.slice none 0 0] 73);have e4:=heap_alloc_new W3 (.cells #[.slice (some ⟨W.heap.size,0,none⟩) 1 1,.slice none 0 0,.slice none 0 0,.slice (some ⟨W.heap.size + 1,0,none⟩) 1 1,.slice none 0 0,.slice none 0 0,.slice (some ⟨W.heap.size + 1 + 1,0,none⟩) 1 1,.slice none 0 0,.slice none 0 0] 73);rw [z3] at e4;refine ⟨⟨_,_,rfl,Nat.le_refl _,by simp,.inr ⟨W.heap.size + 1 + 1 + 1,0,rfl,by rw [← z3]; exact (by simp),fun i hi => ?_⟩⟩,zqaa (zqaa (zqaa b1 b2) b3) b4⟩
 have hn:∀ V:World,Ints .i64 V (.slice none 0 0) [] ∧ Fls V (.slice none 0 0) []:=fun V => ⟨⟨none,0,rfl,by simp,.inl rfl⟩,⟨none,0,rfl,by simp,.inl rfl⟩⟩
 have h3:i < 3:=hi;generalize hV:W3.alloc (.cells #[.slice (some ⟨W.heap.size,0,none⟩) 1 1,.slice none 0 0,.slice none 0 0,.slice (some ⟨W.heap.size + 1,0,none⟩) 1 1,.slice none 0 0,.slice none 0 0,.slice (some ⟨W.heap.size + 1 + 1,0,none⟩) 1 1,.slice none 0 0,.slice none 0 0] 73) = V at *;rcases (by omega:i = 0 ∨ i = 1 ∨ i = 2) with rfl | rfl | rfl
 ·exact ⟨_,_,_,⟨by simp [World.cell?,e4],by simp [World.cell?,e4],by simp [World.cell?,e4]⟩,((i1.below b2).below b3).below b4,(hn V).1,(hn V).2⟩
 ·exact ⟨_,_,_,⟨by simp [World.cell?,e4],by simp [World.cell?,e4],by simp [World.cell?,e4]⟩,(i2.below b3).below b4,(hn V).1,(hn V).2⟩
 ·exact ⟨_,_,_,⟨by simp [World.cell?,e4],by simp [World.cell?,e4],by simp [World.cell?,e4]⟩,i3.below b4,(hn V).1,(hn V).2⟩
theorem zqu6 {B:Nat} {w:World} {r:Value} {ps:List (Value × Value × Ce)} (h:CsRow B w r ps) (hp:ps.map cellOf = [⟨0,1,[],[]⟩,⟨1,2,[],[]⟩]):∃ g c,r = .slice (some ⟨g,0,none⟩) 2 c ∧ Cells w r [⟨0,1,[],[]⟩,⟨1,2,[],[]⟩] ∧ w.cell? ⟨g,1,none⟩ = some (.int .i64 1) ∧ w.cell? ⟨g,5,none⟩ = some (.int .i64 2):=by
 have hl:ps.length = 2:=by have:=congrArg List.length hp; simpa using this
 obtain ⟨a,c,rfl⟩:=h.any;obtain ⟨g,rfl,-,h1,-⟩:=h.at (i:=0) (by omega)
 obtain ⟨g',e,-,h2,-⟩:=h.at (i:=1) (by omega)
 injection e with e;injection e with e;subst e;have e0:(pg ps 0).2.2 = ⟨0,1,[],[]⟩:=by rw [← pg_cg,hp]; rfl
 have e1:(pg ps 1).2.2 = ⟨1,2,[],[]⟩:=by rw [← pg_cg,hp]; rfl
 rw [e0] at h1;rw [e1] at h2;have hc:=h.cells;rw [hp] at hc;rw [hl] at hc ⊢;exact ⟨g,c,rfl,hc,by simpa using h1,by simpa using h2⟩
theorem one_cell {B:Nat} {w:World} {r:Value} {ps:List (Value × Value × Ce)} (h:CsRow B w r ps) (hp:ps.map cellOf = [⟨0,3,[],[]⟩]):∃ g c,r = .slice (some ⟨g,0,none⟩) 1 c ∧ w.cell? ⟨g,1,none⟩ = some (.int .i64 3):=by
 have hl:ps.length = 1:=by have:=congrArg List.length hp; simpa using this
 obtain ⟨a,c,rfl⟩:=h.any;obtain ⟨g,rfl,-,h1,-⟩:=h.at (i:=0) (by omega)
 have e0:(pg ps 0).2.2 = ⟨0,3,[],[]⟩:=by rw [← pg_cg,hp]; rfl
 rw [e0] at h1;rw [hl];exact ⟨g,c,rfl,by simpa using h1⟩
set_option maxHeartbeats 8000000 in
theorem zqoc (w:World) (hT:Tab w) (hT2:Tab64 w):Calls Tryz.prog 12 #[] w fun e w' => e = .returned (.bool true) ∧ Below w.heap.size w w':=by
 have hs:=zqyj w;have b1:=zqab w (.cells #[.string ⟨#[97]⟩,.int .i64 2] 68);have b2:=zqab (w.alloc (.cells #[.string ⟨#[97]⟩,.int .i64 2] 68)) (SchO (.slice (some ⟨w.heap.size,0,none⟩) 1 1) (.slice none 0 0) (.slice none 0 0) (.slice none 0 0));have HS:=zh (hs.below b2);have HB:=zh (zqaa b1 b2);have hx:=zqau (w.alloc (.cells #[.string ⟨#[97]⟩,.int .i64 2] 68)) (.slice (some ⟨w.heap.size,0,none⟩) 1 1) (.slice none 0 0) (.slice none 0 0) (.slice none 0 0);have z1:(w.alloc (.cells #[.string ⟨#[97]⟩,.int .i64 2] 68)).heap.size = w.heap.size + 1:=by simp
 rw [z1] at hx;have HX:=zh hx;have HTb:=zh (fun w1 (h:Below w.heap.size w w1) => And.intro (hT.call h) (hT2.call h))
 clear hs b1 b2 hx z1 hT hT2;go_enter Tryz.func12,Tryz.ntmps12;go_upto_region 2 with fail;generalize (w.alloc (.cells #[.string ⟨#[97]⟩,.int .i64 2] 68)).alloc (SchO (.slice (some ⟨w.heap.size,0,none⟩) 1 1) (.slice none 0 0) (.slice none 0 0) (.slice none 0 0)) = W at *;obtain ⟨x0,x1,x2,x3⟩:=HX.out.reads;obtain ⟨hf,hb⟩:=facts15 W;have HB1:=zh (zqaa HB.out hb);have H1:=zh (zqt9 _ _ _ _ _ _ exU 1 _ (HS.out.below hb) zqss hf (by intro f hf; simp only [List.mem_cons,List.not_mem_nil,or_false] at hf; rcases hf with rfl | rfl | rfl; exact zqpf; exact zqyk; exact zqpf) (HTb.out _ HB1.out).1 (HTb.out _ HB1.out).2 (by decide) (by decide))
 rw [zqyh] at H1;have HW1:=zh hb;clear hf hb;go_wp2_with fail;refine (H1.out).mono ?_; rintro e w1 ⟨r,ps,rfl,hr,hm,hb⟩;obtain ⟨g,c,rfl,hc,k1,k2⟩:=zqu6 hr hm;have HW2:=zh (zqaa HW1.out hb);have HB2:=zh (zqaa HB.out HW2.out);have H2:=zh (zquc _ _ _ _ _ _ exU 1 0 _ (HS.out.below HW2.out) zqss hc (by intro f hf; simp only [List.mem_cons,List.not_mem_nil,or_false] at hf; rcases hf with rfl | rfl; exact zqnd (by decide) (by unfold I64; decide); exact zqnd (by decide) (by unfold I64; decide)) (by decide) (HTb.out _ HB2.out).1 (by decide) (by decide) (by decide) (by decide))
 rw [zqyi] at H2;obtain ⟨y0,y1,y2,y3⟩:=(HX.out.below HW2.out).reads;clear hr hm hb hc H1 x0 x1 x2 x3;go_wp2_with fail;refine (H2.out).mono ?_; rintro e w2 ⟨r2,ps2,rfl,hr,hm,hb⟩;obtain ⟨g2,c2,rfl,q1⟩:=one_cell hr hm;have p1:=cell_later hb k1;have p2:=cell_later hb k2;have HB3:=zh (zqaa HB2.out hb);clear hr hm hb H2 k1 k2 y0 y1 y2 y3;go_wp2_with fail;go_ret;exact ⟨rfl,HB3.out⟩
end Go.Proofs.YtmnbljijnbhghaaGreatDoor
