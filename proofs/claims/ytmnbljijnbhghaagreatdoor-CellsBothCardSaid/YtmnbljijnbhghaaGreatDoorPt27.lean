/- Contracts that the law leans on: Aggp Aggm Aggn. -/
import Derived.Deep.CutRange
import Derived.Test.YtmnbljijnbhghaaGreatDoorPt01
import Derived.Test.YtmnbljijnbhghaaGreatDoorPt02
import Derived.Test.YtmnbljijnbhghaaGreatDoorPt22
import Derived.Test.YtmnbljijnbhghaaGreatDoorPt23
import Derived.Test.YtmnbljijnbhghaaGreatDoorPt24
import Derived.Test.YtmnbljijnbhghaaGreatDoorPt26
namespace Go.Proofs.YtmnbljijnbhghaaGreatDoor
set_option maxRecDepth 100000
open Go.RowKit
set_option linter.unusedVariables false
def minB (l:List Int):Bool:=(List.range l.length).any fun k => l.getD k 0 == -9223372036854775808
theorem zqpl {l:List Int} {k:Nat} (hk:k < l.length) (h:l.getD k 0 = -9223372036854775808):minB l = true:=List.any_eq_true.2 ⟨k,by simpa using hk,by rw [h]; rfl⟩
theorem zqz7 {l:List Int} (h:∀ j,j < l.length → l.getD j 0 ≠ -9223372036854775808):minB l = false:=by
 unfold minB;rw [List.any_eq_false];intro x hx;simpa using h x (by simpa using hx)
def oneE (S:Sc) (m:Int) (f:Fa):Nat:=if checkL S = 0 then if fitsL S f = 0 then if ofE S m f.cs = 0 then if minB f.is = true then 10 else 0 else ofE S m f.cs else fitsL S f else 1
structure OC (S:Sc) (m:Int) (f:Fa) (c:Ce):Prop where
 key:c.key = ofL S m f.cs
 cnt:c.cnt = 1
 li:c.is.length = f.is.length
 ln:c.ns.length = f.ns.length
 is:∀ k,k < f.is.length → OW (f.is.getD k 0) (wg c.is k)
 ns:∀ k,k < f.ns.length → OR (f.ns.getD k 0) (rg c.ns k)
def POne (S:Sc) (m:Int) (f:Fa) (w:World) (e:Ending) (w':World):Prop :=
 ∃ c I N,e = .returned (.tuple #[CeV c I N,.int .i64 (oneE S m f)]) ∧ CeM w' I N c ∧ (oneE S m f = 0 → OC S m f c) ∧ (oneE S m f ≠ 0 → c = ce0) ∧ Below w.heap.size w w'
theorem po_no {S:Sc} {m:Int} {f:Fa} {w w':World} {k:Nat} (h:oneE S m f = k) (hk:k ≠ 0) (hb:Below w.heap.size w w'):POne S m f w (.returned (.tuple #[.agg #[.int .u64 0,.int .i64 0,.slice none 0 0,.slice none 0 0],.int .i64 k])) w' :=
 ⟨ce0,_,_,by rw [h]; rfl,zqfb w',fun e => absurd (h.symm.trans e) hk,fun _ => rfl,hb⟩
theorem zqog {w:World} {cs ds es:Array Value} {T U V:TypeId}:(((w.alloc (.cells cs T)).alloc (.cells ds U)).alloc (.cells es V)).heap[w.heap.size]? = some (.cells cs T (0,0)) ∧ (((w.alloc (.cells cs T)).alloc (.cells ds U)).alloc (.cells es V)).heap[w.heap.size + 1]? = some (.cells ds U (0,0)) ∧ (((w.alloc (.cells cs T)).alloc (.cells ds U)).alloc (.cells es V)).heap[w.heap.size + 1 + 1]? = some (.cells es V (0,0)) ∧ Below w.heap.size w (((w.alloc (.cells cs T)).alloc (.cells ds U)).alloc (.cells es V)):=by
 have b1:=zqab w (.cells cs T);have b2:=zqab (w.alloc (.cells cs T)) (.cells ds U);have b3:=zqab ((w.alloc (.cells cs T)).alloc (.cells ds U)) (.cells es V);have h1:(w.alloc (.cells cs T)).heap[w.heap.size]? = some (.cells cs T (0,0)):=heap_alloc_new w _;have h2:((w.alloc (.cells cs T)).alloc (.cells ds U)).heap[(w.alloc (.cells cs T)).heap.size]? = some (.cells ds U (0,0)):=heap_alloc_new _ _;have h3:(((w.alloc (.cells cs T)).alloc (.cells ds U)).alloc (.cells es V)).heap[((w.alloc (.cells cs T)).alloc (.cells ds U)).heap.size]? = some (.cells es V (0,0)):=heap_alloc_new _ _;simp only [World.size_alloc] at h2 h3;refine ⟨?_,?_,h3,zqaa (zqaa b1 b2) b3⟩
 ·rw [(zqaa b2 b3).block _ (by simp)]; exact h1
 ·rw [b3.block _ (by simp)]; exact h2
theorem zqzh {P:Wh → Prop} {ps:List (Value × Wh)} {q:Value} {x:Wh} {j k:Nat} (hp:ps.length = k) (hj:j < k + 1) (h1:j < k → P (wg (ps.map Prod.snd) j)) (h2:j = k → P x):P (wg ((ps ++ [(q,x)]).map Prod.snd) j):=by
 by_cases e:j = k
 ·have e2:wg ((ps ++ [(q,x)]).map Prod.snd) j = x:=by rw [zqaq (by simp [hp]; omega)]; subst e; simp [← hp]
  rw [e2]; exact h2 e
 ·have e2:wg ((ps ++ [(q,x)]).map Prod.snd) j = wg (ps.map Prod.snd) j:=by rw [zqaq (by simp [hp]; omega),zqaq (by simp [hp]; omega)]; simp [List.getElem_append_left,hp,show j < k by omega]
  rw [e2]; exact h1 (by omega)
theorem zqzg {P:Re → Prop} {ps:List (Value × Re)} {q:Value} {x:Re} {j k:Nat} (hp:ps.length = k) (hj:j < k + 1) (h1:j < k → P (rg (ps.map Prod.snd) j)) (h2:j = k → P x):P (rg ((ps ++ [(q,x)]).map Prod.snd) j):=by
 by_cases e:j = k
 ·have e2:rg ((ps ++ [(q,x)]).map Prod.snd) j = x:=by rw [zqap (by simp [hp]; omega)]; subst e; simp [← hp]
  rw [e2]; exact h2 e
 ·have e2:rg ((ps ++ [(q,x)]).map Prod.snd) j = rg (ps.map Prod.snd) j:=by rw [zqap (by simp [hp]; omega),zqap (by simp [hp]; omega)]; simp [List.getElem_append_left,hp,show j < k by omega]
  rw [e2]; exact h1 (by omega)
set_option maxHeartbeats 8000000 in
theorem zqw7 (w:World) (D I M V C J X:Value) (S:Sc) (m:Int) (f:Fa) (h:Sch4 w D I M V S) (hw:SWf S) (h':Fact3 w C J X f) (hf:FaWf f) (m0:0 ≤ m) (m1:m ≤ 4294967295) (hT:Tab w) (hT2:Tab64 w) :
  Calls Tryz.prog 49 #[SchV D I M V,.int .u32 m,FactV C J X] w (POne S m f w):=by
 obtain ⟨b1,b2,b3,b4⟩:=zqog (w:=w) (T:=26) (U:=73) (V:=38) (cs:=#[D,I,M,V]) (ds:=#[C,J,X]) (es:=#[.int .u64 0,.int .i64 0,.slice none 0 0,.slice none 0 0]);have HB:=zh b4;have HX:=zh (show Box _ w.heap.size D I M V from b1);have HY:=zh b2;have HZ:=zh b3;have HC:=zh (fun w1 (hb:Below w.heap.size w w1) => zqql w1 D I M V C J X S f (h.below hb) hw (h'.below hb) hf)
 have HO:=zh (fun w1 (hb:Below w.heap.size w w1) => zqyr w1 D I M V C S m f.cs (h.below hb) hw (h'.c.below hb) m0 m1)
 have HFi:=zh (fun w1 (hb:Below w.heap.size w w1) => h'.i.below hb)
 have HFn:=zh (fun w1 (hb:Below w.heap.size w w1) => h'.n.below hb)
 have HOw:=zh (fun k (hk:k < f.is.length) w1 => zqq8 w1 (f.is.getD k 0) (zqd4 (P:=I64) hf.i hk))
 have HOr:=zh (fun k (hk:k < f.ns.length) w1 (hb:Below w.heap.size w w1) => zqt0 w1 (f.ns.getD k 0) (zqd4 (P:=W64) hf.n hk) (hT.call hb) (hT2.call hb))
 have HSm:=zh (fun hc h => zqky (S:=S) hc hf h)
 have HE:=zh (show oneE S m f = if checkL S = 0 then if fitsL S f = 0 then if ofE S m f.cs = 0 then if minB f.is = true then 10 else 0 else ofE S m f.cs else fitsL S f else 1 from rfl)
 obtain ⟨⟨a1,c1,rfl⟩,⟨a2,c2,rfl⟩,⟨a3,c3,rfl⟩,a4,c4,rfl⟩:=h.slices;obtain ⟨⟨p1,d1,rfl⟩,⟨p2,d2,rfl⟩,p3,d3,rfl⟩:=h'.slices;unfold OWP at HOw;unfold ORP at HOr;clear h h' hw hf hT hT2 m0 m1 b1 b2 b3 b4;go_enter Tryz.func49,Tryz.ntmps49;go_upto_region 1 with fail;generalize ((w.alloc (SchO (.slice a1 S.ds.length c1) (.slice a2 S.is.length c2) (.slice a3 S.ns.length c3) (.slice a4 S.vs.length c4))).alloc (FaO (.slice p1 f.cs.length d1) (.slice p2 f.is.length d2) (.slice p3 f.ns.length d3))).alloc (.cells #[.int .u64 0,.int .i64 0,.slice none 0 0,.slice none 0 0] 38) = W at *;obtain ⟨x0,x1,x2,x3⟩:=HX.out.reads;obtain ⟨y0,y1,y2⟩:=row3 HY.out;obtain ⟨⟨z0,z1,z2,z3⟩,zf⟩:=zqac HZ.out;have hlt:w.heap.size + 1 + 1 < W.heap.size:=(Array.getElem?_eq_some_iff.1 HZ.out).1;have HNo:=zh (fun (w9:World) (k:Nat) (hb9:Below W.heap.size W w9) (he:oneE S m f = k) (hk:k ≠ 0) => And.intro (zqan (k':=0) (n':=0) (I':=.slice none 0 0) (N':=.slice none 0 0) ((hb9.block _ hlt).trans HZ.out)) (po_no he hk (zqao (R:=w.heap.size + 1 + 1) (k':=0) (n':=0) (I':=.slice none 0 0) (N':=.slice none 0 0) (HB.out.trans (hb9.mono HB.out.size)) (by omega))))
 unfold set4 at HNo;go_wp2_with fail;refine (HC.out _ HB.out).mono ?_; rintro e w1 ⟨rfl,hb1⟩;have HW1:=zh hb1;have HB1:=zh (zqaa HB.out hb1);have x0:=cell_later hb1 x0;have x1:=cell_later hb1 x1;have x2:=cell_later hb1 x2;have x3:=cell_later hb1 x3;have y0:=cell_later hb1 y0;have y1:=cell_later hb1 y1;have y2:=cell_later hb1 y2;have hz:=(hb1.block _ hlt).trans HZ.out;clear hb1 z0 z1 z2 z3 zf HC;obtain ⟨⟨z0,z1,z2,z3⟩,zf⟩:=zqac hz;have hE1:∃ E1:Nat,(if checkL S = 0 then ((fitsL S f:Nat):Int) else 1) = (E1:Int) ∧ ((E1 = 0 ∧ checkL S = 0 ∧ fitsL S f = 0) ∨ (E1 ≠ 0 ∧ oneE S m f = E1)):=by
  by_cases q:checkL S = 0
  ·refine ⟨fitsL S f,by rw [if_pos q],?_⟩
   by_cases q2:fitsL S f = 0
   ·exact .inl ⟨q2,q,q2⟩
   ·exact .inr ⟨q2,by rw [HE.out,if_pos q,if_neg q2]⟩
  ·exact ⟨1,by rw [if_neg q]; rfl,.inr ⟨by decide,by rw [HE.out,if_neg q]⟩⟩
 obtain ⟨E1,e1,hE1⟩:=hE1;rw [e1];clear e1;rcases hE1 with ⟨rfl,hc0,hf0⟩ | ⟨hne,hoe⟩
 rotate_left
 ·have HR:=zh (HNo.out _ E1 HW1.out hoe hne);have hn:((E1:Int) != 0) = true:=by simp [hne]
  clear HNo hoe hne HO HOw HOr HFi HFn HSm HE hz;go_wp2_with fail;obtain ⟨⟨r0,r1,r2,r3⟩,-⟩:=zqac HR.out.1;exact bodyPost_ret (v:=.tuple #[.agg #[.int .u64 0,.int .i64 0,.slice none 0 0,.slice none 0 0],.int .i64 E1]) (by simp [results,Tryz.results49,go_sem,r0,r1,r2,r3]) rfl HR.out.2
 ·have HE2:=zh (show oneE S m f = if ofE S m f.cs = 0 then if minB f.is = true then 10 else 0 else ofE S m f.cs by rw [HE.out,if_pos hc0,if_pos hf0])
  have HSz:=zh (HSm.out hc0 hf0);clear HE HSm;go_wp2_with fail;refine (HO.out _ HB1.out).mono ?_; rintro e w2 ⟨rfl,hb2⟩;have HW2:=zh (zqaa HW1.out hb2);have HB2:=zh (zqaa HB1.out hb2);have y1:=cell_later hb2 y1;have y2:=cell_later hb2 y2;have hz2:=(HW2.out.block _ hlt).trans HZ.out;clear hb2 z0 z1 z2 z3 zf HO x0 x1 x2 x3 y0 hz;obtain ⟨⟨z0,z1,z2,z3⟩,zf⟩:=zqac hz2
  by_cases ho:ofE S m f.cs = 0
  rotate_left
  ·have HR:=zh (HNo.out _ (ofE S m f.cs) HW2.out (by rw [HE2.out,if_neg ho]) ho)
   have hn:((ofE S m f.cs:Int) != 0) = true:=by simp [ho]
   clear HNo HOw HOr HFi HFn HE2 hz2 ho;generalize ofE S m f.cs = E1 at *;generalize ofL S m f.cs = K at *;go_wp2_with fail;obtain ⟨⟨r0,r1,r2,r3⟩,-⟩:=zqac HR.out.1;exact bodyPost_ret (v:=.tuple #[.agg #[.int .u64 0,.int .i64 0,.slice none 0 0,.slice none 0 0],.int .i64 E1]) (by simp [results,Tryz.results49,go_sem,r0,r1,r2,r3]) rfl HR.out.2
  ·have HE3:=zh (show oneE S m f = if minB f.is = true then 10 else 0 by rw [HE2.out,if_pos ho])
   have HOC:=zh (fun c k1 k2 k3 k4 k5 k6 => (⟨k1,k2,k3,k4,k5,k6⟩:OC S m f c))
   rw [ho];clear HE2 ho;generalize ofL S m f.cs = K at *;go_upto_region 8 with fail;have hb3:=zqab w2 (.cells (boxV K 1 (.slice none 0 0) (.slice none 0 0)) 38);have HC0:=zh (show (w2.alloc (.cells (boxV K 1 (.slice none 0 0) (.slice none 0 0)) 38)).heap[w2.heap.size]? = some (.cells (boxV K 1 (.slice none 0 0) (.slice none 0 0)) 38 (0,0)) from heap_alloc_new w2 _);have y1:=cell_later hb3 y1;have y2:=cell_later hb3 y2;have HW3:=zh hb3;have hR2:w.heap.size + 1 + 1 < w2.heap.size:=Nat.lt_of_lt_of_le hlt HW2.out.size;have hF2:w.heap.size + 1 < w2.heap.size:=by omega
   have HY2:=zh ((HW2.out.block _ (by omega)).trans HY.out)
   have HZ2:=zh hz2;clear hb3 z0 z1 z2 z3 zf hz2;generalize w2.alloc (.cells (boxV K 1 (.slice none 0 0) (.slice none 0 0)) 38) = W3 at *;obtain ⟨i0,hi,hz0,hz1,hz2⟩:=info_parts Tryz.infoWhole;have hmi:f.is.length ≤ 9223372036854775807:=by have:=HSz.out.2.2.1; omega
   have hmn:f.ns.length ≤ 9223372036854775807:=by have:=HSz.out.2.2.2; omega
   go_wp2_with fail;clear y1 y2;go_loopw [42] (fun iv wr => ∃ (k:Nat) (v:Value) (ps:List (Value × Wh)),k ≤ f.is.length ∧ iv = .int .i64 k ∧ Hid (ps.length = k ∧ Below w2.heap.size w2 wr ∧ wr.heap[w2.heap.size]? = some (.cells (boxV K 1 v (.slice none 0 0)) 38 (0,0)) ∧ WsOwn wr w2.heap.size v ps ∧ ∀ j,j < k → f.is.getD j 0 ≠ -9223372036854775808 ∧ OW (f.is.getD j 0) (wg (ps.map Prod.snd) j))) (fun iv _ => f.is.length - (intOf iv).toNat)
   case atStart => exact ⟨0,_,[],Nat.zero_le _,rfl,zh ⟨rfl,HW3.out,HC0.out,WsOwn.nil _ _,fun j hj => by omega⟩⟩
   case round =>
    obtain ⟨k,v,ps,hk,rfl,HS⟩:=hrel;have HBw:=zh (HB2.out.trans (HS.out.2.1.mono HB2.out.size))
    by_cases hlk:k < f.is.length
    ·have hlk':(k:Int) < (f.is.length:Int):=by omega
     have hle:Hid (k + 1 ≤ f.is.length):=zh (by omega)
     obtain ⟨b,off,rfl,-,g0⟩:=zqz5 (HFi.out _ HBw.out) hlk;have HOk:=zh (HOw.out k hlk);have HSk:=zh (fun E (q:oneE S m f = E) => q)
     obtain ⟨x,hx⟩:∃ x,f.is.getD k 0 = x:=⟨_,rfl⟩
     have HXk:=zh hx;rw [hx] at g0 HOk;clear hx;go_wp2_with fail;refine (HOk.out _).mono ?_; rintro e w4 ⟨z0,z1,lz,z3,z4,pq,cq,E,rfl,hb4,hc,hO⟩;have hb5:=zqaa hb4 (zqab w4 (.cells #[.int .i64 z0,.int .i64 z1,.slice pq lz.length cq,.int .i64 z3,.int .i64 z4] 85));obtain ⟨e0,e1,e2,e3,e4⟩:=row5 (heap_alloc_new w4 (.cells #[.int .i64 z0,.int .i64 z1,.slice pq lz.length cq,.int .i64 z3,.int .i64 z4] 85));have HB5:=zh (HS.out.2.1.trans (hb5.mono HS.out.2.1.size));have HWs:=zh (HS.out.2.2.2.1.below hb5);have HOq:=zh (zqaj (zqak hO (B':=w2.heap.size) HS.out.2.1.size) (zqab w4 (.cells #[.int .i64 z0,.int .i64 z1,.slice pq lz.length cq,.int .i64 z3,.int .i64 z4] 85)));have hCC:=(hb5.block _ (Array.getElem?_eq_some_iff.1 HS.out.2.2.1).1).trans HS.out.2.2.1;have HCC:=zh hCC;have HPs:=zh HS.out.1;have HJl:=zh HS.out.2.2.2.2;clear hb4 hb5 hO g0 HS HOk;go_upto_region 12 with fail;generalize w4.alloc (.cells #[.int .i64 z0,.int .i64 z1,.slice pq lz.length cq,.int .i64 z3,.int .i64 z4] 85) = w5 at *;rcases hc with ⟨hxm,rfl⟩ | ⟨hxm,rfl,hOW⟩
     ·have HR:=zh (HNo.out w5 10 (HW2.out.trans (HB5.out.mono HW2.out.size)) (by rw [HE3.out,if_pos (zqpl hlk (HXk.out.trans hxm))]) (by decide))
      have hzz:=(HB5.out.block _ hR2).trans HZ2.out;obtain ⟨⟨q0,q1,q2,q3⟩,zf⟩:=zqac hzz;clear HNo HOw HOr HFi HFn hCC hzz e0 e1 e2 e3 e4 hxm;go_wp2_with fail;obtain ⟨⟨r0,r1,r2,r3⟩,-⟩:=zqac HR.out.1;exact bodyPost_ret (v:=.tuple #[.agg #[.int .u64 0,.int .i64 0,.slice none 0 0,.slice none 0 0],.int .i64 10]) (by simp [results,Tryz.results49,go_sem,r0,r1,r2,r3]) rfl HR.out.2
     ·have HOW:=zh (And.intro hxm hOW);obtain ⟨pv,cv,rfl⟩:=zqae HWs.out.1;obtain ⟨⟨-,-,q2,-⟩,-⟩:=zqac hCC;clear hxm hOW hCC;go_wp2_with (at_builtin; refine wpList_append_own _ rfl _ _ 35 rfl w2.heap.size 85 i0 (.agg #[.int .i64 0,.int .i64 0,.slice none 0 0,.int .i64 0,.int .i64 0]) 5 56 Tryz.underlying35 hi hz0 hz1 hz2 zqcw (by decide) _ _ (cellsW ps) rfl (zqaj HWs.out.1 (zqab _ _)) ⟨w5.heap.size,0,none⟩ 1 1 [.int .i64 z0,.int .i64 z1,.slice pq lz.length cq,.int .i64 z3,.int .i64 z4] rfl rfl (World.news_of_block (heap_alloc_new w5 _)) (by intro u hu; simp at hu; rcases hu with rfl | rfl | rfl | rfl | rfl <;> rfl) (by have:=HPs.out; have:=HSz.out.2.2.1; unfold maxLen; omega) (by have:=HPs.out; have:=HSz.out.2.2.1; omega) (by have:=HB5.out.size; simp; omega) ?_; intro v' w9 hown hgrow hiff; clear hiff; have HZ9:=zh (WsOwn.push (x:=⟨z0,z1,lz,z3,z4⟩) (HWs.out.below (zqab _ _)) (zqaj HOq.out (zqab _ _)) hown hgrow); have HC9:=zh (zqfi (zqaf HCC.out (zqab _ _)) (zqaj HWs.out.1 (zqab _ _)) (by decide) hgrow); have HB9:=zh (Below.grown (HB5.out.trans ((zqab _ _).mono HB5.out.size)) hgrow (by have:=HB5.out.size; simp; omega) (fun gg hg => (World.ownsRow.lt HWs.out.1 gg hg).1)); obtain ⟨⟨s0,s1,s2,s3⟩,sf⟩:=zqac HC9.out; obtain ⟨pv',cv',rfl⟩:=zqae hown; clear hown hgrow)
      have HC10:=zh (zqdz (u:=.slice pv' (ps.length + 1) cv') HC9.out);have HZ10:=zh (HZ9.out.setbox (j:=2) (u:=.slice pv' (ps.length + 1) cv') HC9.out (by decide) (by decide))
      have HB10:=zh (HB9.out.setCell (p:=⟨w2.heap.size,2,none⟩) (Nat.le_refl _) (.slice pv' (ps.length + 1) cv'));go_roundw
      case rel => exact ⟨k + 1,_,ps ++ [(.slice pq lz.length cq,⟨z0,z1,lz,z3,z4⟩)],hle.out,by go_num,zh ⟨by simp [HPs.out],HB10.out,HC10.out,HZ10.out,fun j hj => ⟨if e:j < k then (HJl.out j e).1 else by (obtain rfl:j = k:=by omega); rw [HXk.out]; exact HOW.out.1,zqzh HPs.out hj (fun e => (HJl.out j e).2) (fun e => by subst e; rw [HXk.out]; exact HOW.out.2)⟩⟩⟩
      case measure => simp [intOf]; omega
    ·have:k = f.is.length:=by omega
     subst this;obtain ⟨pv,cv,rfl⟩:=zqae HS.out.2.2.2.1.1;have HMn:=zh (show oneE S m f = 0 by rw [HE3.out,if_neg (by rw [zqz7 (fun j hj => (HS.out.2.2.2.2 j hj).1)]; decide)])
     have HJW:=zh (fun j (hj:j < f.is.length) => (HS.out.2.2.2.2 j hj).2)
     have HPs:=zh HS.out.1;obtain ⟨-,-,y2⟩:=row3 ((HS.out.2.1.block _ hF2).trans HY2.out);have HV0:=zh (And.intro HS.out.2.1 (And.intro HS.out.2.2.1 HS.out.2.2.2.1));obtain ⟨j0,hj,hy0,hy1,hy2⟩:=info_parts Tryz.infoReal;clear HS hlk hk HE3 HBw;generalize wr = wz at *;go_wp2_with fail;clear y2;go_loopw [65] (fun iv wr => ∃ (k:Nat) (v2:Value) (rs:List (Value × Re)),k ≤ f.ns.length ∧ iv = .int .i64 k ∧ Hid (rs.length = k ∧ Below w2.heap.size w2 wr ∧ wr.heap[w2.heap.size]? = some (.cells (boxV K 1 (.slice pv ps.length cv) v2) 38 (0,0)) ∧ WsOwn wr w2.heap.size (.slice pv ps.length cv) ps ∧ RsOwn wr w2.heap.size v2 rs ∧ ∀ j,j < k → OR (f.ns.getD j 0) (rg (rs.map Prod.snd) j))) (fun iv _ => f.ns.length - (intOf iv).toNat)
     case atStart => exact ⟨0,_,[],Nat.zero_le _,rfl,zh ⟨rfl,HV0.out.1,HV0.out.2.1,HV0.out.2.2,RsOwn.nil _ _,fun j hj => by omega⟩⟩
     case round =>
      obtain ⟨k,v2,rs,hk,rfl,HS⟩:=hrel;obtain ⟨pv2,cv2,rfl⟩:=zqae HS.out.2.2.2.2.1.1;have HBw:=zh (HB2.out.trans (HS.out.2.1.mono HB2.out.size))
      by_cases hlk:k < f.ns.length
      ·have hlk':(k:Int) < (f.ns.length:Int):=by omega
       have hle:Hid (k + 1 ≤ f.ns.length):=zh (by omega)
       obtain ⟨b,off,rfl,-,g0⟩:=fl_at (HFn.out _ HBw.out) hlk;have HOk:=zh (HOr.out k hlk);obtain ⟨x,hx⟩:∃ x,f.ns.getD k 0 = x:=⟨_,rfl⟩
       have HXk:=zh hx;rw [hx] at g0 HOk;have hk0:=(zqac HS.out.2.2.1).1.2.2.2;have HCl:=zh (Array.getElem?_eq_some_iff.1 HS.out.2.2.1).1;have HRl:=zh HS.out.1;clear hx;go_upto_region 19 with fail;have hk:wr.drew.cell? ⟨w2.heap.size,3,none⟩ = some (.slice pv2 rs.length cv2):=hk0;clear g0;refine zqfa (S:=fun w' => w'.cell? ⟨w2.heap.size,3,none⟩ = some (.slice pv2 rs.length cv2)) 7 (by kernel_rfl) hk (fun _ => ?_)
       refine tkZ 0 69 (.pointer (some ⟨w2.heap.size,3,none⟩)) rfl hk ?_;try simp only [pS]
       refine tkZ 1 70 (.slice pv2 rs.length cv2) rfl hk ?_;try simp only [pS]
       refine tkZ 2 71 (.float .f64 x) rfl hk ?_;try simp only [pS]
       refine zqbi (i:=3) (by kernel_rfl) rfl (fun K' hK => ?_)
       rw [if_pos (by kernel_rfl)]
       go_simp;go_at_call 97;refine (HOk.out _ HBw.out.drew).mono ?_;rintro r w4 ⟨lz,pq,cq,rfl,hb4,hOR,hO⟩;have hb4':=zqaw hb4;replace hk:=cell_later hb4' hk0;have HO4:=zh (zqak hO (B':=w2.heap.size) HS.out.2.1.size);have HOR4:=zh hOR;clear hk0 hb4 hO hOR;refine hK.out _ _ hk ?_;try simp only [pS]
       clear hK;refine zqbi (i:=4) (by kernel_rfl) rfl (fun K' hK => ?_)
       rw [if_pos (by kernel_rfl)]
       go_simp;have hb5:=zqab w4 (.cells #[.slice pq lz.length cq,.float .f64 x,.float .f64 x] 90);have hbE:=zqaa hb4' hb5;replace hk:=cell_later hb5 hk;refine hK.out _ _ hk ?_;try simp only [pS]
       clear hK;refine zqbi (i:=5) (by kernel_rfl) rfl (fun K' hK => ?_)
       refine zqb5 _ (by rfl) _ _ _ (by rfl) w2.heap.size 90 j0 (.agg #[.slice none 0 0,.float .f64 0,.float .f64 0]) 3 40 Tryz.underlying36 hj hy0 hy1 hy2 zqda (by decide) _ rs.length (cellsR rs) (by rfl) (zqaj HS.out.2.2.2.2.1.1 hbE) ⟨w4.heap.size,0,none⟩ 1 1 [.slice pq lz.length cq,.float .f64 x,.float .f64 x] (by rfl) (by rfl) (World.news_of_block (heap_alloc_new w4 _)) (by intro u hu; simp at hu; rcases hu with rfl | rfl | rfl <;> rfl) (by have:=HRl.out; have:=HSz.out.2.2.2; unfold maxLen; omega) (by have:=HRl.out; have:=HSz.out.2.2.2; omega) (by have h1:=hbE.size; have h2:=HS.out.2.1.size; omega) ?_
       intro v' w9 hown hgrow;have hRE:=HS.out.2.2.2.2.1.below hbE;have hWE:=HS.out.2.2.2.1.below hbE;have HR9:=zh (RsOwn.push (x:=⟨lz,x,x⟩) hRE (zqaj HO4.out hb5) hown hgrow);have HW9:=zh (hWE.apart hRE.1 (by decide) (by decide) hgrow)
       have hCE:=(hbE.block _ HCl.out).trans HS.out.2.2.1;have HC9:=zh (zqfi hCE hRE.1 (by decide) hgrow)
       have HB9:=zh (Below.grown (HS.out.2.1.trans (hbE.mono HS.out.2.1.size)) hgrow (by have h1:=hbE.size; have h2:=HS.out.2.1.size; omega) (fun gg hg => (World.ownsRow.lt HS.out.2.2.2.2.1.1 gg hg).1))
       obtain ⟨⟨s0,s1,s2,s3⟩,sf⟩:=zqac HC9.out;replace hk:=s3;have HJl:=zh HS.out.2.2.2.2.2;clear hWE hRE hCE hbE hb5 hb4' HS;obtain ⟨pv',cv',rfl⟩:=zqae hown;clear hown hgrow;refine hK.out _ _ hk ?_;try simp only [Act.put,List.setIfInBounds_toArray]
       clear hK;refine tkZ 6 75 (.pointer (some ⟨w2.heap.size,3,none⟩)) rfl hk ?_;try simp only [Act.put]
       refine zqit (by kernel_rfl) rfl (fun K' hK => ?_)
       rw [if_pos (by kernel_rfl)]
       go_simp;refine hK.out _ _ ?_;try simp only [pS]
       clear hK;refine zqis (by kernel_rfl) ?_ _
       have HC12:=zh (zqhx (u:=.slice pv' (rs.length + 1) cv') HC9.out);have HW12:=zh (HW9.out.setbox (j:=3) (u:=.slice pv' (rs.length + 1) cv') HC9.out (by decide) (by decide))
       have HR12:=zh (HR9.out.setbox (j:=3) (u:=.slice pv' (rs.length + 1) cv') HC9.out (by decide) (by decide))
       have HB12:=zh (HB9.out.setCell (p:=⟨w2.heap.size,3,none⟩) (Nat.le_refl _) (.slice pv' (rs.length + 1) cv'));generalize w9.setCell ⟨w2.heap.size,3,none⟩ (.slice pv' (rs.length + 1) cv') = w12 at *;clear hk s0 s1 s2 s3 sf;go_wp2_with fail;go_roundw
       case rel => exact ⟨k + 1,_,rs ++ [(.slice pq lz.length cq,⟨lz,x,x⟩)],hle.out,by go_num,zh ⟨by simp [HRl.out],HB12.out,HC12.out,HW12.out,HR12.out,fun j hj => zqzg HRl.out hj (fun e => HJl.out j e) (fun e => by subst e; rw [HXk.out]; exact HOR4.out)⟩⟩
       case measure => simp [intOf]; omega
      ·have:k = f.ns.length:=by omega
       subst this;have hzz:=(HS.out.2.1.block _ hR2).trans HZ2.out;obtain ⟨⟨q0,q1,q2,q3⟩,zf⟩:=zqac hzz;obtain ⟨⟨s0,s1,s2,s3⟩,-⟩:=zqac HS.out.2.2.1;have hS:=zqan (k':=K) (n':=1) (I':=.slice pv ps.length cv) (N':=.slice pv2 rs.length cv2) hzz;have hB:=zqao (R:=w.heap.size + 1 + 1) (k':=K) (n':=1) (I':=.slice pv ps.length cv) (N':=.slice pv2 rs.length cv2) HBw.out (by omega)
       have hW:=zqg7 (k':=K) (n':=1) (I':=.slice pv ps.length cv) (N':=.slice pv2 rs.length cv2) hzz (by decide) (by decide) HS.out.2.2.2.1
       have hR:=zqg6 (k':=K) (n':=1) (I':=.slice pv ps.length cv) (N':=.slice pv2 rs.length cv2) hzz (by decide) (by decide) HS.out.2.2.2.2.1
       unfold set4 at hS hB hW hR;have HS9:=zh hS;have HB9:=zh hB;have HW9:=zh hW;have HR9:=zh hR;have HF:=zh (HOC.out ⟨K,1,ps.map Prod.snd,rs.map Prod.snd⟩ rfl rfl (by simp [HPs.out]) (by simp [HS.out.1]) HJW.out HS.out.2.2.2.2.2)
       clear hS hB hW hR hzz HS hk hlk;go_wp2_with fail;obtain ⟨⟨r0,r1,r2,r3⟩,-⟩:=zqac HS9.out;exact bodyPost_ret (v:=.tuple #[CeV ⟨K,1,ps.map Prod.snd,rs.map Prod.snd⟩ (.slice pv ps.length cv) (.slice pv2 rs.length cv2),.int .i64 0]) (by simp [results,Tryz.results49,go_sem,r0,r1,r2,r3]) rfl ⟨_,_,_,by rw [HMn.out]; rfl,⟨HW9.out.wholes,HR9.out.reals⟩,fun _ => HF.out,fun q => absurd HMn.out q,HB9.out⟩
theorem JRP.raw {x y:Re} {w w':World} {e:Ending} (h:JRP x y w e w'):∃ (lz:List Int) (z1 z2:Nat) (p:Option Addr) (c E:Nat),e = .returned (.tuple #[.agg #[.slice p lz.length c,.float .f64 z1,.float .f64 z2],.int .i64 E]) ∧ Below w.heap.size w w' ∧ (rErr x y = E ∧ (E = 0 → JR x y ⟨lz,z1,z2⟩)) ∧
  w'.ownsRow w.heap.size 5 1 (.slice p lz.length c) lz.length (lz.map (Value.int .u8)):=by
 obtain ⟨⟨lz,z1,z2⟩,q,E,rfl,h1,h2,h3⟩:=h;obtain ⟨p,c,rfl⟩:=zqae h3;exact ⟨lz,z1,z2,p,c,E,rfl,h1,h2,h3⟩
def EachR (l m:List Re) (w:World) (e:Ending) (w':World):Prop :=
 Below w.heap.size w w' ∧ ((∃ k,k < l.length ∧ (∀ j,j < k → rErr (rg l j) (rg m j) = 0) ∧ rErr (rg l k) (rg m k) ≠ 0 ∧ e = .returned (.tuple #[.slice none 0 0,.int .i64 (rErr (rg l k) (rg m k))])) ∨
  ∃ v ps,e = .returned (.tuple #[v,.int .i64 0]) ∧ RsOwn w' w.heap.size v ps ∧ ps.length = l.length ∧ ∀ k,k < l.length → rErr (rg l k) (rg m k) = 0 ∧ JR (rg l k) (rg m k) (rg (ps.map Prod.snd) k))
set_option maxHeartbeats 8000000 in
theorem zqqx (w:World) (u v:Value) (l m:List Re) (hu:Reals w u l) (hv:Reals w v m) (hl:l.length = m.length) (h10:l.length ≤ 10) (hw:∀ x ∈ l,ReW x) (hw':∀ x ∈ m,ReW x) (hT:Tab w) :
  Calls Tryz.prog 111 #[u,v,.func (.func 112) #[] #[]] w (EachR l m w):=by
 have HU:=zh hu;have HV:=zh hv;have HJ:=zh (fun k (hk:k < l.length) w1 (hb:Below w.heap.size w w1) q r (hq:Ints .u8 w1 q (rg l k).sum) (hr:Ints .u8 w1 r (rg m k).sum) => zqtc w1 (rg l k) (rg m k) q r hq hr (by rw [zqap hk]; exact hw _ (List.getElem_mem _)) (by rw [zqap (show k < m.length by omega)]; exact hw' _ (List.getElem_mem _)) (hT.call hb))
 have HL:=zh (And.intro hl h10);obtain ⟨i0,hi,hz0,hz1,hz2⟩:=info_parts Tryz.infoReal;unfold EachR;obtain ⟨a,c,rfl,-⟩:=hu;obtain ⟨a',c',rfl,-⟩:=hv;clear hl h10 hw hw' hT;go_enter Tryz.func111,Tryz.ntmps111;go_wp2_with fail;go_loopw [8,15] (fun lv iv wr => ∃ (k:Nat) (ps:List (Value × Re)),k ≤ l.length ∧ iv = .int .i64 k ∧ Hid (ps.length = k ∧ Below w.heap.size w wr ∧ RsOwn wr w.heap.size lv ps ∧ ∀ j,j < k → rErr (rg l j) (rg m j) = 0 ∧ JR (rg l j) (rg m j) (rg (ps.map Prod.snd) j))) (fun _ iv _ => l.length - (intOf iv).toNat)
 case atStart => exact ⟨0,[],Nat.zero_le _,rfl,zh ⟨rfl,Below.refl _ _,RsOwn.nil _ _,fun j hj => by omega⟩⟩
 case round =>
  obtain ⟨k,ps,hk,rfl,HS⟩:=hrel;have hmi:l.length ≤ 9223372036854775807:=by have:=HL.out.2; omega
  by_cases hlk:k < l.length
  ·have hlk':(k:Int) < (l.length:Int):=by omega
   have hkb0:k < m.length:=by have:=HL.out.1; omega
   have hkb:(k:Int) < (m.length:Int):=by omega
   obtain ⟨ba,oa,qa,rfl,hqa⟩:=(HU.out.below HS.out.2.1).at hlk;obtain ⟨bb,ob,qb,rfl,hqb⟩:=(HV.out.below HS.out.2.1).at hkb0;have hle:Hid (k + 1 ≤ l.length):=zh (by omega)
   have HJk:=zh (HJ.out k hlk);have HGd:=zh (fun j (hj:j < k + 1) (ps':List (Value × Re)) (hp:ps'.length = k) (p:Value × Re) (hp2:∀ j,j < k → rErr (rg l j) (rg m j) = 0 ∧ JR (rg l j) (rg m j) (rg (ps'.map Prod.snd) j)) (h:rErr (rg l k) (rg m k) = 0 ∧ JR (rg l k) (rg m k) p.2) => show rErr (rg l j) (rg m j) = 0 ∧ JR (rg l j) (rg m j) (rg ((ps' ++ [p]).map Prod.snd) j) from
    if e:j = k then by
     subst e;have e2:rg ((ps' ++ [p]).map Prod.snd) j = p.2:=by rw [zqap (by simp [hp])]; simp [hp]
     rw [e2]; exact h
    else by
     have e2:rg ((ps' ++ [p]).map Prod.snd) j = rg (ps'.map Prod.snd) j:=by rw [zqap (by simp [hp]; omega),zqap (by simp [hp]; omega)]; simp [List.getElem_append_left,hp,show j < k by omega]
     rw [e2]; exact hp2 j (by omega))
   obtain ⟨f0,f1,f2,f5⟩:=hqa;obtain ⟨g0,g1,g2,g5⟩:=hqb;have HF5:=zh (And.intro f5 g5);have HJz:=zh (fun z => show JR (rg l k) (rg m k) z → JR (rg l k) (rg m k) z from id)
   obtain ⟨xx,hxx⟩:∃ xx,rg l k = xx:=⟨_,rfl⟩
   obtain ⟨yy,hyy⟩:∃ yy,rg m k = yy:=⟨_,rfl⟩
   have HXY:=zh (And.intro hxx hyy);rw [hxx] at f1 f2 HJk HF5;rw [hyy] at g1 g2 HJk HF5;clear hxx hyy HJz f5 g5;obtain ⟨lx,x1,x2⟩:=xx;obtain ⟨ly,y1,y2⟩:=yy;have HF6:=zh HF5.out;obtain ⟨⟨pa,pac,rfl,-,-⟩,pb,pbc,rfl,-,-⟩:=HF5.out
   dsimp only at f1 f2 g1 g2 HF6 HJk
   clear HF5;have hsf:=fun (w:World) (a:Addr) (m:Mode) (k:Nat) => zqa6 (P:=Tryz.prog) (w:=w) (a:=a) (m:=m) k
   go_upto_region 5 with fail;have hHT0:=zqab wr (.cells #[.slice pa lx.length pac,.float .f64 x1,.float .f64 x2] 90);obtain ⟨hx0,hx1,hx2⟩:=row3 (heap_alloc_new wr (.cells #[.slice pa lx.length pac,.float .f64 x1,.float .f64 x2] 90));have hy0:=cell_later hHT0 g0;have hy1:=cell_later hHT0 g1;have hy2:=cell_later hHT0 g2;have hblt:bb < wr.heap.size:=World.block_lt_of_cell? _ _ g0;have HT0:=zh hHT0;have HB0:=zh (HS.out.2.1.trans (HT0.out.mono HS.out.2.1.size));have hk0:(wr.alloc (.cells #[.slice pa lx.length pac,.float .f64 x1,.float .f64 x2] 90)).cell? ⟨wr.heap.size,0,none⟩ = some (.slice pa lx.length pac) ∧ (wr.alloc (.cells #[.slice pa lx.length pac,.float .f64 x1,.float .f64 x2] 90)).cell? ⟨wr.heap.size,1,none⟩ = some (.float .f64 x1) ∧ (wr.alloc (.cells #[.slice pa lx.length pac,.float .f64 x1,.float .f64 x2] 90)).cell? ⟨wr.heap.size,2,none⟩ = some (.float .f64 x2) ∧ (wr.alloc (.cells #[.slice pa lx.length pac,.float .f64 x1,.float .f64 x2] 90)).cell? ⟨bb,ob + k * 3,none⟩ = some (.slice pb ly.length pbc) ∧ (wr.alloc (.cells #[.slice pa lx.length pac,.float .f64 x1,.float .f64 x2] 90)).cell? ⟨bb,ob + k * 3 + 1,none⟩ = some (.float .f64 y1) ∧ (wr.alloc (.cells #[.slice pa lx.length pac,.float .f64 x1,.float .f64 x2] 90)).cell? ⟨bb,ob + k * 3 + 2,none⟩ = some (.float .f64 y2):=⟨hx0,hx1,hx2,hy0,hy1,hy2⟩;clear hHT0 hx0 hx1 hx2 hy0 hy1 hy2 f0 g0 f1 g1 f2 g2;have HWs:Hid (wr.heap.size + 1 = (wr.alloc (.cells #[.slice pa lx.length pac,.float .f64 x1,.float .f64 x2] 90)).heap.size):=zh (by simp)
   have HIn:=zh (And.intro (HF6.out.1.below HT0.out) (HF6.out.2.below HT0.out));generalize wr.alloc (.cells #[.slice pa lx.length pac,.float .f64 x1,.float .f64 x2] 90) = W at *;have HJz:=zh (fun w1 (hb:Below W.heap.size W w1) => HJk.out w1 (zqaa HB0.out hb) _ _ (HIn.out.1.below hb) (HIn.out.2.below hb))
   clear HJk HJ;go_cut [11,12] from 16 to 37 (fun v11 v12 wx => ∃ (M E:Nat) (lz:List Int) (z1 z2:Nat) (pq:Option Addr) (cq:Nat),v11 = .pointer (some ⟨M,0,none⟩) ∧ v12 = .int .i64 E ∧ Hid (MadeAt14 90 W M #[.slice pq lz.length cq,.float .f64 z1,.float .f64 z2] wx ∧ (rErr (rg l k) (rg m k) = E ∧ (E = 0 → JR (rg l k) (rg m k) ⟨lz,z1,z2⟩)) ∧ wx.ownsRow W.heap.size 5 1 (.slice pq lz.length cq) lz.length (lz.map (Value.int .u8))))
   case first =>
    have hk:W.drew.cell? ⟨wr.heap.size,0,none⟩ = some (.slice pa lx.length pac) ∧ W.drew.cell? ⟨wr.heap.size,1,none⟩ = some (.float .f64 x1) ∧ W.drew.cell? ⟨wr.heap.size,2,none⟩ = some (.float .f64 x2) ∧ W.drew.cell? ⟨bb,ob + k * 3,none⟩ = some (.slice pb ly.length pbc) ∧ W.drew.cell? ⟨bb,ob + k * 3 + 1,none⟩ = some (.float .f64 y1) ∧ W.drew.cell? ⟨bb,ob + k * 3 + 2,none⟩ = some (.float .f64 y2):=hk0;go_region_held3 (fun w' => w'.cell? ⟨wr.heap.size,0,none⟩ = some (.slice pa lx.length pac) ∧ w'.cell? ⟨wr.heap.size,1,none⟩ = some (.float .f64 x1) ∧ w'.cell? ⟨wr.heap.size,2,none⟩ = some (.float .f64 x2) ∧ w'.cell? ⟨bb,ob + k * 3,none⟩ = some (.slice pb ly.length pbc) ∧ w'.cell? ⟨bb,ob + k * 3 + 1,none⟩ = some (.float .f64 y1) ∧ w'.cell? ⟨bb,ob + k * 3 + 2,none⟩ = some (.float .f64 y2)) (first | (with_reducible exact hk) | exact hold6 (by repeat' first | exact Below.refl _ _ | refine Below.drew ?_ | refine Below.alloc ?_ (by first | exact Nat.le_refl _ | exact hBw.size | (simp; done) | (simp; omega) | (have:=hBw.size; simp; omega)) _ | refine Below.setCell ?_ (by first | exact Nat.le_refl _ | (simp; done) | (simp; omega)) _ | exact hBw) hk0)
     (first
      | (go_at_call 112; refine (HJz.out _ (by (repeat' first | exact Below.refl _ _ | refine Below.drew ?_ | refine Below.alloc ?_ (by first | exact Nat.le_refl _ | (simp; done) | (simp; omega)) _); done)).mono ?_; rintro e w2 hr; obtain ⟨lz,z1,z2,pq,cq,E,rfl,hb2,hj,ho⟩:=JRP.raw hr; (first | (have hBw:Below W.heap.size W w2:=zqaw hb2) | (obtain ⟨hMz,hBw⟩:=zqm1 (W:=W) (w2:=w2) (cs:=#[.slice none 0 0,.float .f64 0,.float .f64 0]) (T:=90) hb2; have zf:=zqav hMz; obtain ⟨e0,e1,e2⟩:=row3 hMz) | (obtain ⟨hMz,hBw⟩:=zqm2 (W:=W) (w2:=w2) (cs:=#[.slice none 0 0,.float .f64 0,.float .f64 0]) (T:=90) hb2; have zf:=zqav hMz; obtain ⟨e0,e1,e2⟩:=row3 hMz)); have hk:=hold6 hBw hk0; have HJr:=zh hj; rw [← HXY.out.1,← HXY.out.2] at HJr; have HO2:=zh (zqak ho (B':=W.heap.size) (by simp)); clear hr hb2 hj ho))
    all_goals
     go_wp2_with fail;go_meet
     first
      | (have h1:=zqtk (a:=.slice pq lz.length cq) (b:=.float .f64 z1) (c:=.float .f64 z2) hMz hBw; have h2:=zqii (a:=.slice pq lz.length cq) (b:=.float .f64 z1) (c:=.float .f64 z2) hMz (by decide) HO2.out; exact ⟨W.heap.size,E,lz,z1,z2,pq,cq,rfl,rfl,zh ⟨h1,HJr.out,h2⟩⟩)
      | (have h1:=zqjf (T:=90) (cs:=#[.slice pq lz.length cq,.float .f64 z1,.float .f64 z2]) hBw; have h2:=zqaj HO2.out (zqab w2 (.cells #[.slice pq lz.length cq,.float .f64 z1,.float .f64 z2] 90)); exact ⟨w2.heap.size,E,lz,z1,z2,pq,cq,rfl,rfl,zh ⟨h1,HJr.out,h2⟩⟩)
   case rest =>
    obtain ⟨M,E,lz,z1,z2,pq,cq,rfl,rfl,hC⟩:=hcut;obtain ⟨e0,e1,e2⟩:=row3 hC.out.1.1;have HBc:=zh (HB0.out.trans (hC.out.1.2.1.mono HB0.out.size));have HWs:=zh (HS.out.2.2.1.below (zqaa HT0.out hC.out.1.2.1));have HOq:=zh (zqak hC.out.2.2 (B':=w.heap.size) HB0.out.size);have HPs:=zh HS.out.1;have HJl:=zh HS.out.2.2.2;have HRs:=zh hC.out.2.1;clear hC hk0 HJz HXY HIn HF6 HT0;have hre:=HRs.out.1;have HRt:=zh HRs.out
    by_cases hE:E = 0
    rotate_left;have hne:((E:Int) != 0) = true:=by simp [hE]
    rotate_left;rotate_left
    ·have HR:=zh HRs.out;clear e0 e1 e2 HRs;go_wp2_with fail;go_ret2;exact ⟨HBc.out,.inl ⟨k,hlk,fun j hj => (HJl.out j hj).1,by rw [hre]; exact hE,by rw [hre]; rfl⟩⟩
    ·obtain ⟨pv,cv,rfl⟩:=zqae HWs.out.1;clear HRs;go_wp2_with (at_builtin; refine wpList_append_own _ rfl _ _ 36 rfl w.heap.size 90 i0 (.agg #[.slice none 0 0,.float .f64 0,.float .f64 0]) 3 40 Tryz.underlying36 hi hz0 hz1 hz2 zqda (by decide) _ _ (cellsR ps) rfl (zqaj HWs.out.1 (zqab _ _)) ⟨wc.heap.size,0,none⟩ 1 1 [.slice pq lz.length cq,.float .f64 z1,.float .f64 z2] rfl rfl (World.news_of_block (heap_alloc_new wc _)) (by intro u hu; simp at hu; rcases hu with rfl | rfl | rfl <;> rfl) (by have:=HPs.out; have:=HL.out.2; unfold maxLen; omega) (by have:=HPs.out; have:=HL.out.2; omega) (by have:=HBc.out.size; simp; omega) ?_; intro v' w9 hown hgrow hiff; clear hiff; have HZ:=zh (RsOwn.push (x:=⟨lz,z1,z2⟩) (HWs.out.below (zqab _ _)) (zqaj HOq.out (zqab _ _)) hown hgrow); have HB9:=zh (Below.grown (zqaa HBc.out (zqab _ _)) hgrow (by have:=HBc.out.size; simp; omega) (fun gg hg => (World.ownsRow.lt HWs.out.1 gg hg).1)); obtain ⟨pv',cv',rfl⟩:=zqae hown; clear hown hgrow)
     go_roundw
     case rel => exact ⟨k + 1,ps ++ [(.slice pq lz.length cq,⟨lz,z1,z2⟩)],hle.out,by go_num,zh ⟨by simp [HPs.out],HB9.out,HZ.out,fun j hj => HGd.out j hj ps HPs.out (.slice pq lz.length cq,⟨lz,z1,z2⟩) HJl.out ⟨hre.trans hE,HRt.out.2 hE⟩⟩⟩
     case measure => simp [intOf]; omega
  ·have:k = l.length:=by omega
   subst this;have HF:=zh HS.out;obtain ⟨pv,cv,rfl⟩:=zqae HS.out.2.2.1.1;clear HS hlk hk;go_wp2_with fail;go_ret2;exact ⟨HF.out.2.1,.inr ⟨_,ps,rfl,HF.out.2.2.1,HF.out.1,HF.out.2.2.2⟩⟩
theorem pj_no {a b:Ce} {w w':World} {k:Nat} (h:errJ a b = k) (hk:k ≠ 0) (hb:Below w.heap.size w w'):RJ14 a b w (.returned (.tuple #[.agg #[.int .u64 0,.int .i64 0,.slice none 0 0,.slice none 0 0],.int .i64 k])) w':=rj_no h hk hb
set_option maxHeartbeats 8000000 in
theorem zqop (w:World) (a b:Ce) (I N I' N':Value) (h:CeM w I N a) (h':CeM w I' N' b) (ha:CeW a) (hb:CeW b) (sa:ShortC 1000 a) (sb:ShortC 1000 b) (hT:Tab w) :
  Calls Tryz.prog 55 #[CeV a I N,CeV b I' N'] w (RJ14 a b w):=by
 obtain ⟨b1,b2,b3,b4⟩:=zqf8 (w:=w) (T:=38) (cs:=#[.int .u64 a.key,.int .i64 a.cnt,I,N]) (ds:=#[.int .u64 b.key,.int .i64 b.cnt,I',N']) (es:=#[.int .u64 0,.int .i64 0,.slice none 0 0,.slice none 0 0]);have HB:=zh b4;have HX:=zh b1;have HY:=zh b2;have HZ:=zh b3;have HEW:=zh (fun w1 (hb1:Below w.heap.size w w1) (hl:a.is.length = b.is.length) => zqqy w1 I I' a.is b.is (h.i.below hb1) (h'.i.below hb1) hl sa.li ha.is hb.is (fun k hk => ⟨sa.sq k hk,sb.sq k (by omega)⟩))
 have HER:=zh (fun w1 (hb1:Below w.heap.size w w1) (hl:a.ns.length = b.ns.length) => zqqx w1 N N' a.ns b.ns (h.n.below hb1) (h'.n.below hb1) hl sa.ln ha.ns hb.ns (hT.call hb1))
 have HAd:=zh (fun w1 => zqiq a.cnt b.cnt ha.cnt.1 ha.cnt.2 hb.cnt.1 hb.cnt.2 w1)
 have HArg:=zh (@zqmq a b);have HOv:=zh (@zqkv a b);have HRe:=zh (@zqkw a b);have HCl:=zh (show fitB (a.cnt + b.cnt) = true → clip (a.cnt + b.cnt) = a.cnt + b.cnt from fun h => by simp [clip,h])
 have HM:=zh (And.intro sa.li sa.ln);obtain ⟨⟨p,k1,rfl⟩,p2,k2,rfl⟩:=h.slices;obtain ⟨⟨p',k1',rfl⟩,p2',k2',rfl⟩:=h'.slices;unfold EachW at HEW;unfold EachR at HER;clear h h' ha hb sa sb hT b1 b2 b3 b4;go_enter Tryz.func55,Tryz.ntmps55;go_upto_region 1 with fail;generalize ((w.alloc (CeO a (.slice p a.is.length k1) (.slice p2 a.ns.length k2))).alloc (CeO b (.slice p' b.is.length k1') (.slice p2' b.ns.length k2'))).alloc (.cells #[.int .u64 0,.int .i64 0,.slice none 0 0,.slice none 0 0] 38) = W at *;obtain ⟨⟨x0,x1,x2,x3⟩,-⟩:=zqac HX.out;obtain ⟨⟨y0,y1,y2,y3⟩,-⟩:=zqac HY.out;obtain ⟨⟨z0,z1,z2,z3⟩,zf⟩:=zqac HZ.out;have hlt:w.heap.size + 1 + 1 < W.heap.size:=(Array.getElem?_eq_some_iff.1 HZ.out).1;have HNo:=zh (fun (w9:World) (k:Nat) (hb9:Below W.heap.size W w9) (he:errJ a b = k) (hk:k ≠ 0) => And.intro (zqan (k':=0) (n':=0) (I':=.slice none 0 0) (N':=.slice none 0 0) ((hb9.block _ hlt).trans HZ.out)) (pj_no he hk (zqao (R:=w.heap.size + 1 + 1) (k':=0) (n':=0) (I':=.slice none 0 0) (N':=.slice none 0 0) (HB.out.trans (hb9.mono HB.out.size)) (by omega))))
 unfold set4 at HNo;have hcases:(a.key != b.key) = true ∨ ((a.key != b.key) = false ∧ ((a.is.length:Int) != (b.is.length:Int)) = true) ∨ ((a.key != b.key) = false ∧ ((a.is.length:Int) != (b.is.length:Int)) = false ∧ ((a.ns.length:Int) != (b.ns.length:Int)) = true) ∨ ((a.key != b.key) = false ∧ ((a.is.length:Int) != (b.is.length:Int)) = false ∧ ((a.ns.length:Int) != (b.ns.length:Int)) = false):=by
  cases (a.key != b.key) <;> cases ((a.is.length:Int) != (b.is.length:Int)) <;> cases ((a.ns.length:Int) != (b.ns.length:Int)) <;> simp
 rcases hcases with e1 | ⟨e1,e2⟩ | ⟨e1,e2,e3⟩ | ⟨e1,e2,e3⟩
 ·have HR:=zh (HNo.out _ 1 (Below.refl _ _) (HArg.out (fun q => by simp at e1; exact e1 q.1)) (by decide))
  clear HEW HER HNo;go_wp2_with fail;obtain ⟨⟨r0,r1,r2,r3⟩,-⟩:=zqac HR.out.1;exact bodyPost_ret (v:=.tuple #[.agg #[.int .u64 0,.int .i64 0,.slice none 0 0,.slice none 0 0],.int .i64 1]) (by simp [results,Tryz.results55,go_sem,r0,r1,r2,r3]) rfl HR.out.2
 ·have HR:=zh (HNo.out _ 1 (Below.refl _ _) (HArg.out (fun q => by simp at e2; omega)) (by decide))
  clear HEW HER HNo;go_wp2_with fail;obtain ⟨⟨r0,r1,r2,r3⟩,-⟩:=zqac HR.out.1;exact bodyPost_ret (v:=.tuple #[.agg #[.int .u64 0,.int .i64 0,.slice none 0 0,.slice none 0 0],.int .i64 1]) (by simp [results,Tryz.results55,go_sem,r0,r1,r2,r3]) rfl HR.out.2
 ·have HR:=zh (HNo.out _ 1 (Below.refl _ _) (HArg.out (fun q => by simp at e3; omega)) (by decide))
  clear HEW HER HNo;go_wp2_with fail;obtain ⟨⟨r0,r1,r2,r3⟩,-⟩:=zqac HR.out.1;exact bodyPost_ret (v:=.tuple #[.agg #[.int .u64 0,.int .i64 0,.slice none 0 0,.slice none 0 0],.int .i64 1]) (by simp [results,Tryz.results55,go_sem,r0,r1,r2,r3]) rfl HR.out.2
 ·have HL:=zh (show a.key = b.key ∧ a.is.length = b.is.length ∧ a.ns.length = b.ns.length by simp at e1 e2 e3; exact ⟨e1,by omega,by omega⟩)
  have HOv2:=zh (HOv.out HL.out);have HRe2:=zh (HRe.out HL.out);clear HOv HRe HArg;go_wp2_with fail;refine (HAd.out _).mono ?_; rintro e w1 ⟨rfl,rfl⟩;generalize hft:fitB (a.cnt + b.cnt) = ft at *;cases ft with
  | false =>
   have HR:=zh (HNo.out _ 10 (Below.refl _ _) (HOv2.out (fun q => by cases q.1)) (by decide))
   clear HEW HER HNo;go_wp2_with fail;obtain ⟨⟨r0,r1,r2,r3⟩,-⟩:=zqac HR.out.1;exact bodyPost_ret (v:=.tuple #[.agg #[.int .u64 0,.int .i64 0,.slice none 0 0,.slice none 0 0],.int .i64 10]) (by simp [results,Tryz.results55,go_sem,r0,r1,r2,r3]) rfl HR.out.2
  | true =>
   have hcl:=HCl.out rfl;rw [hcl];have HCN:Hid (∃ q,a.cnt + b.cnt = q):=zh ⟨_,rfl⟩
   generalize hcn:a.cnt + b.cnt = cn at *;replace HCN:=zh hcn;clear hcl HCl hcn;go_wp2_with fail;refine (HEW.out _ HB.out HL.out.2.1).mono ?_; rintro e w2 ⟨hb2,hr⟩;have HW2:=zh hb2;have HB2:=zh (zqaa HB.out hb2);have x0:=cell_later hb2 x0;have x3:=cell_later hb2 x3;have y3:=cell_later hb2 y3;have hz2:=(hb2.block _ hlt).trans HZ.out;clear hb2 z0 z1 z2 z3 zf x1 x2 y0 y1 y2;obtain ⟨⟨z0,z1,z2,z3⟩,zf⟩:=zqac hz2;rcases hr with ⟨⟨k,hk,hok⟩,rfl⟩ | ⟨v,ps,rfl,hzv,hzl,hzj⟩
   ·have HR:=zh (HNo.out _ 10 HW2.out (HOv2.out (fun q => by have:=q.2 k hk; rw [hok] at this; cases this)) (by decide))
    clear HEW HER HNo hz2;go_wp2_with fail;obtain ⟨⟨r0,r1,r2,r3⟩,-⟩:=zqac HR.out.1;exact bodyPost_ret (v:=.tuple #[.agg #[.int .u64 0,.int .i64 0,.slice none 0 0,.slice none 0 0],.int .i64 10]) (by simp [results,Tryz.results55,go_sem,r0,r1,r2,r3]) rfl HR.out.2
   ·have HRe3:=zh (HRe2.out ⟨by trivial,fun k hk => (hzj k hk).1⟩)
    have HZV:=zh (And.intro hzv (And.intro hzl (fun k hk => (hzj k hk).2)))
    obtain ⟨pv,cv,rfl⟩:=zqae hzv.1;clear hzv hzl hzj HOv2 HRe2 hz2;go_wp2_with fail;refine (HER.out _ HB2.out HL.out.2.2).mono ?_; rintro e w3 ⟨hb3,hr⟩;have HW3:=zh (zqaa HW2.out hb3);have HB3:=zh (zqaa HB2.out hb3);have x0:=cell_later hb3 x0;have hz3:=(HW3.out.block _ hlt).trans HZ.out;have HZV3:=zh (HZV.out.1.below hb3);clear hb3 z0 z1 z2 z3 zf x3 y3;obtain ⟨⟨z0,z1,z2,z3⟩,zf⟩:=zqac hz3;rcases hr with ⟨k,hk,hj,hne,rfl⟩ | ⟨v2,rs,rfl,hzv,hzl,hzj⟩
    ·have hE:=HRe3.out.trans (zqh1 (f:=fun k => rErr (rg a.ns k) (rg b.ns k)) hj hne _ hk)
     have HR:=zh (HNo.out _ _ HW3.out hE hne);have hn:((rErr (rg a.ns k) (rg b.ns k):Int) != 0) = true:=by simp [hne]
     clear HEW HER HNo hz3 hE hj;generalize rErr (rg a.ns k) (rg b.ns k) = E at *;clear hne;go_wp2_with fail;obtain ⟨⟨r0,r1,r2,r3⟩,-⟩:=zqac HR.out.1;exact bodyPost_ret (v:=.tuple #[.agg #[.int .u64 0,.int .i64 0,.slice none 0 0,.slice none 0 0],.int .i64 E]) (by simp [results,Tryz.results55,go_sem,r0,r1,r2,r3]) rfl HR.out.2
    ·have hE:=HRe3.out.trans (zqdo (f:=fun k => rErr (rg a.ns k) (rg b.ns k)) _ (fun k hk => (hzj k hk).1))
     have HJC:=zh (show JC a b ⟨a.key,cn,ps.map Prod.snd,rs.map Prod.snd⟩ from ⟨rfl,HCN.out.symm,by simp [HZV.out.2.1],by simp [hzl],HZV.out.2.2,fun k hk => (hzj k hk).2⟩)
     obtain ⟨pv2,cv2,rfl⟩:=zqae hzv.1;have hS:=zqan (k':=a.key) (n':=cn) (I':=.slice pv ps.length cv) (N':=.slice pv2 rs.length cv2) hz3;have hB:=zqao (R:=w.heap.size + 1 + 1) (k':=a.key) (n':=cn) (I':=.slice pv ps.length cv) (N':=.slice pv2 rs.length cv2) HB3.out (by omega)
     have hW:=zqg7 (k':=a.key) (n':=cn) (I':=.slice pv ps.length cv) (N':=.slice pv2 rs.length cv2) hz3 (by decide) (by decide) HZV3.out
     have hR:=zqg6 (k':=a.key) (n':=cn) (I':=.slice pv ps.length cv) (N':=.slice pv2 rs.length cv2) hz3 (by decide) (by decide) hzv
     unfold set4 at hS hB hW hR;have HS:=zh hS;have HBS:=zh hB;have HWS:=zh hW;have HRS:=zh hR;have HE:=zh hE;clear HEW HER HNo hzv hzl hzj hE hz3 hS hB hW hR;go_wp2_with fail;obtain ⟨⟨r0,r1,r2,r3⟩,-⟩:=zqac HS.out;exact bodyPost_ret (v:=.tuple #[CeV ⟨a.key,cn,ps.map Prod.snd,rs.map Prod.snd⟩ (.slice pv ps.length cv) (.slice pv2 rs.length cv2),.int .i64 0]) (by simp [results,Tryz.results55,go_sem,r0,r1,r2,r3]) rfl ⟨_,_,_,by rw [HE.out]; rfl,⟨ps,rs,HWS.out.low (by first | exact HB1.out.size | exact HB.out.size | exact Nat.le_trans HB.out.size HW2.out.size),HRS.out.low (by first | exact HB2.out.size | exact HB.out.size),rfl,rfl⟩,fun _ => HJC.out,fun q => absurd HE.out q,HBS.out⟩
end Go.Proofs.YtmnbljijnbhghaaGreatDoor
