/- Contracts that the law leans on: Aggq Aggw Agoe Agof Agol. -/
import Derived.Test.YtafmghloohhaeaaGreatDoorPt02
import Derived.Test.YtafmghloohhaeaaGreatDoorPt11
import Derived.Test.YtafmghloohhaeaaGreatDoorPt16
import Derived.Test.YtafmghloohhaeaaGreatDoorPt28
import Derived.Test.YtafmghloohhaeaaGreatDoorPt30
import Derived.Test.YtafmghloohhaeaaGreatDoorPt32
import Derived.Test.YtafmghloohhaeaaGreatDoorPt33
namespace Go.Proofs.YtafmghloohhaeaaGreatDoor
set_option maxRecDepth 100000
open Go.RowKit
set_option linter.unusedVariables false
theorem OW.len {x:Int} {z:Wh} (h:OW x z) (hx:I64 x):z.sq.length ≤ 4:=by
 refine h.ty.wlen h.wd ?_;rw [h.sq];have h1:x * x = (x.natAbs:Int) * (x.natAbs:Int):=(Int.natAbs_mul_self' x).symm;have h2:(x.natAbs:Int) ≤ 9223372036854775808:=by have:=hx.1; have:=hx.2; omega
 have h3:(x.natAbs:Int) * (x.natAbs:Int) ≤ 9223372036854775808 * 9223372036854775808:=Int.mul_le_mul h2 h2 (by omega) (by decide)
 rw [h1];exact Int.lt_of_le_of_lt h3 (by decide)
theorem OW.w {x:Int} {z:Wh} (h:OW x z) (hx:I64 x) (h0:x ≠ -9223372036854775808):WhW z where
 sum:=by rw [h.sum]; exact hx
 abs:=by rw [h.abs]; have:=hx.1; have:=hx.2; unfold I64; omega
 sq:=h.wd
 len:=by have:=h.len hx; omega
 mn:=by rw [h.mn]; exact hx
 mx:=by rw [h.mx]; exact hx
theorem zqs1 (x:Nat):flagN x < 32:=by rcases zqiv x with h | h | h | h | h <;> omega
theorem OR.w {x:Nat} {z:Re} (h:OR x z) (hx:W64 x):ReW z where
 sum:=h.sum.bt (zqs1 x)
 len:=by have:=h.sum.len; omega
 mn:=by rw [h.mn]; exact hx
 mx:=by rw [h.mx]; exact hx
theorem zqt5 {S:Sc} {m:Int} {l:List Int}:0 ≤ ofL S m l ∧ ofL S m l ≤ 18446744073709551615:=by
 unfold ofL
 by_cases h:ofE S m l = 0
 ·rw [if_pos h];obtain ⟨h1,h2,h3⟩:=zq1l h;have hc:=(zqj3 h1).1;have hz:=(zqgy hc).2;have:=zqmq hz h3 S.ds.length (Nat.le_refl _);omega
 ·rw [if_neg h]; omega
theorem zqo1 {S:Sc} {m:Int} {f:Fa} (h:oneE S m f = 0):checkL S = 0 ∧ fitsL S f = 0 ∧ ofE S m f.cs = 0 ∧ ∀ k,k < f.is.length → f.is.getD k 0 ≠ -9223372036854775808:=by
 unfold oneE at h
 split at h
 ·rename_i h1
  split at h
  ·rename_i h2
   split at h
   ·rename_i h3
    split at h
    ·cases h
    ·rename_i h4;exact ⟨h1,h2,h3,fun k hk e => h4 (zqow hk e)⟩
   ·rename_i h3; exact absurd h h3
  ·rename_i h2; exact absurd h h2
 ·cases h
theorem OC.w {S:Sc} {m:Int} {f:Fa} {c:Ce} (h:OC S m f c) (hf:FaWf f) (h0:oneE S m f = 0):CeW c:=by
 obtain ⟨q1,q2,q3,q4⟩:=zqo1 h0;refine ⟨by rw [h.key]; exact zqt5,by rw [h.cnt]; unfold I64; decide,fun x hx => ?_,fun x hx => ?_⟩
 ·obtain ⟨k,hk,rfl⟩:=List.getElem_of_mem hx;have hk2:k < f.is.length:=by rw [← h.li]; exact hk
  rw [← zqa5 hk];exact (h.is k hk2).w (zqec (P:=I64) hf.i hk2) (q4 k hk2)
 ·obtain ⟨k,hk,rfl⟩:=List.getElem_of_mem hx;have hk2:k < f.ns.length:=by rw [← h.ln]; exact hk
  rw [← zqax hk];exact (h.ns k hk2).w (zqec (P:=W64) hf.n hk2)
theorem OC.short {S:Sc} {m:Int} {f:Fa} {c:Ce} (h:OC S m f c) (hf:FaWf f) (h0:oneE S m f = 0):ShortC 20 c:=by
 obtain ⟨q1,q2,q3,q4⟩:=zqo1 h0;obtain ⟨-,-,k1,k2⟩:=zqkv q1 hf q2;refine ⟨by rw [h.li]; omega,by rw [h.ln]; omega,fun k hk => ?_⟩
 have hk2:k < f.is.length:=by rw [← h.li]; exact hk
 have:=(h.is k hk2).len (zqec (P:=I64) hf.i hk2);omega
def exA:Fa:=⟨[1],[3],[]⟩
def exB:Fa:=⟨[0],[-5],[]⟩
theorem zqzn:oneE exT 0 exA = 0:=by decide +kernel
theorem zqzp:oneE exT 0 exB = 0:=by decide +kernel
theorem zqzm:ofL exT 0 exA.cs = 0:=by decide +kernel
theorem zqzo:ofL exT 0 exB.cs = 0:=by decide +kernel
theorem zq09:FaWf exA:=by
 refine ⟨?_,?_,?_,by decide⟩
 ·intro x h; simp [exA] at h; omega
 ·intro x h; simp [exA] at h; omega
 ·intro x h; simp [exA] at h
theorem zq1a:FaWf exB:=by
 refine ⟨?_,?_,?_,by decide⟩
 ·intro x h; simp [exB] at h; omega
 ·intro x h; simp [exB] at h; omega
 ·intro x h; simp [exB] at h
theorem zq08 {a b:Ce} (ha:OC exT 0 exA a) (hb:OC exT 0 exB b):errJ a b = 0:=by
 have hla:a.is.length = 1:=ha.li;have hlb:b.is.length = 1:=hb.li;have hna:a.ns.length = 0:=ha.ln;have hnb:b.ns.length = 0:=hb.ln;have h1:a.key = b.key ∧ a.is.length = b.is.length ∧ a.ns.length = b.ns.length:=⟨by rw [ha.key,hb.key,zqzm,zqzo],by omega,by omega⟩
 have h2:fitB (a.cnt + b.cnt) = true ∧ ∀ k,k < a.is.length → okW (wg a.is k) (wg b.is k) = true:=by
  refine ⟨by rw [ha.cnt,hb.cnt]; decide,fun k hk => ?_⟩
  obtain rfl:k = 0:=by omega
  have ka:=ha.is 0 (by decide)
  have kb:=hb.is 0 (by decide)
  unfold okW;rw [ka.sum,kb.sum,ka.abs,kb.abs]
  decide
 rw [zqks h1 h2,hna]
 rfl
theorem zqzl {a b c:Ce} (ha:OC exT 0 exA a) (hb:OC exT 0 exB b) (h:JC a b c):∃ k ns,c = ⟨k,2,[⟨-2,8,[34],-5,3⟩],ns⟩:=by
 have hla:a.is.length = 1:=ha.li;have hlc:c.is.length = 1:=by rw [h.li]; exact hla
 have ka:=ha.is 0 (by decide)
 have kb:=hb.is 0 (by decide)
 have hj:=h.is 0 (by omega)
 have hc:=h.cnt;rw [ha.cnt,hb.cnt] at hc;obtain ⟨k,n,is,ns⟩:=c;simp only at hlc hj hc
 match is,hlc with
 | [z],_ =>
  have hz:wg [z] 0 = z:=rfl;rw [hz] at hj;obtain ⟨z0,z1,z2,z3,z4⟩:=z;have e0:=hj.sum;have e1:=hj.abs;have e3:=hj.mn;have e4:=hj.mx;have e2:=hj.sq;have ex:exA.is.getD 0 0 = 3:=rfl;have ey:exB.is.getD 0 0 = -5:=rfl;rw [ka.sum,kb.sum,ex,ey] at e0;rw [ka.abs,kb.abs,ex,ey] at e1;rw [ka.mn,kb.mn,ex,ey] at e3;rw [ka.mx,kb.mx,ex,ey] at e4;rw [ka.sq,kb.sq,ex,ey] at e2;simp only at e0 e1 e2 e3 e4;have h34:z2 = [34]:=zqbl hj.wd (by intro x hx; simp at hx; omega) hj.ty (.inr (by decide)) (by rw [e2]; decide)
  refine ⟨k,ns,?_⟩;rw [h34,e0,e1,e3,e4,hc]
  rfl
theorem zql8 (w:World) (cd x:Int) {N:Nat} (hN:w.heap.size = N):Fact3 ((w.alloc (.cells #[.int .i64 cd] 3)).alloc (.cells #[.int .i64 x] 2)) (.slice (some ⟨N,0,none⟩) 1 1) (.slice (some ⟨N + 1,0,none⟩) 1 1) (.slice none 0 0) ⟨[cd],[x],[]⟩ :=
 ⟨(zqkb (k:=.i64) (w:=w) (x:=cd) (T:=3) hN).below (zqab _ _),zqkb (k:=.i64) (x:=x) (T:=2) (by simp [hN]),⟨none,0,rfl,by simp,.inl rfl⟩⟩
theorem zqo4 (w:World) (D I M V C J X:Value) (f:Fa) (h:Sch4 w D I M V exT) (h':Fact3 w C J X f) (hf:FaWf f) (hT:Tab w) (hT2:Tab64 w) (he:oneE exT 0 f = 0) :
  Calls Tryz.prog 13 #[SchV D I M V,.int .u32 0,FactV C J X] w fun e w' => ∃ c p k q l,e = .returned (.tuple #[.agg #[.int .u64 c.key,.int .i64 c.cnt,.slice p c.is.length k,.slice q c.ns.length l],.int .i64 0]) ∧ CeM w' (.slice p c.is.length k) (.slice q c.ns.length l) c ∧ OC exT 0 f c ∧ CeW c ∧ ShortC 20 c ∧ Below w.heap.size w w' :=
 (zqx5 w D I M V C J X exT 0 f h zq1b h' hf (by decide) (by decide) hT hT2).mono fun e w' ⟨c,I,N,he2,hm,hok,_,hb⟩ => by
  obtain ⟨⟨p,k,rfl⟩,q,l,rfl⟩:=hm.slices;rw [he] at he2;exact ⟨c,p,k,q,l,he2,hm,hok he,(hok he).w hf he,(hok he).short hf he,hb⟩
theorem row4 {w:World} {P:Nat} {T:TypeId} {a b c d:Value} (h:w.heap[P]? = some (.cells #[a,b,c,d] T (0,0))):w.cell? ⟨P,0,none⟩ = some a ∧ w.cell? ⟨P,1,none⟩ = some b ∧ w.cell? ⟨P,2,none⟩ = some c ∧ w.cell? ⟨P,3,none⟩ = some d:=by
 refine ⟨by simp [World.cell?,h],by simp [World.cell?,h],by simp [World.cell?,h],by simp [World.cell?,h]⟩
set_option maxHeartbeats 8000000 in
theorem zqnr (w:World) (hT:Tab w) (hT2:Tab64 w):Calls Tryz.prog 6 #[] w fun e w' => e = .returned (.bool true) ∧ Below w.heap.size w w':=by
 obtain ⟨W1,hW1⟩:∃ W,w.alloc (.cells #[.string ⟨#[97]⟩,.int .i64 2] 50) = W:=⟨_,rfl⟩
 obtain ⟨W2,hW2⟩:∃ W,W1.alloc (.cells #[.string ⟨#[109]⟩] 9) = W:=⟨_,rfl⟩
 have hd:=zqwi w w.heap.size 50 rfl;rw [hW1] at hd;have hs:=zqij (W:=W1) (x:=⟨#[109]⟩) (T:=9) rfl;have z1:W1.heap.size = w.heap.size + 1:=by rw [← hW1]; simp
 rw [hW2,z1] at hs;have b1:=zqab w (.cells #[.string ⟨#[97]⟩,.int .i64 2] 50);rw [hW1] at b1;have b2:=zqab W1 (.cells #[.string ⟨#[109]⟩] 9);rw [hW2] at b2;have z2:W2.heap.size = w.heap.size + 1 + 1:=by rw [← hW2]; simp [z1]
 have b3:=zqab W2 (SchO (.slice (some ⟨w.heap.size,0,none⟩) 1 1) (.slice (some ⟨w.heap.size + 1,0,none⟩) 1 1) (.slice none 0 0) (.slice none 0 0));have hx:=zqa7 W2 (.slice (some ⟨w.heap.size,0,none⟩) 1 1) (.slice (some ⟨w.heap.size + 1,0,none⟩) 1 1) (.slice none 0 0) (.slice none 0 0);rw [z2] at hx;have HX:=zh hx;have HS:=zh (show Sch4 (W2.alloc (SchO (.slice (some ⟨w.heap.size,0,none⟩) 1 1) (.slice (some ⟨w.heap.size + 1,0,none⟩) 1 1) (.slice none 0 0) (.slice none 0 0))) (.slice (some ⟨w.heap.size,0,none⟩) 1 1) (.slice (some ⟨w.heap.size + 1,0,none⟩) 1 1) (.slice none 0 0) (.slice none 0 0) exT from
  ⟨(hd.below b2).below b3,hs.below b3,⟨none,0,rfl,by simp [exT],by simp [exT],.inl rfl⟩,⟨none,0,rfl,by simp [exT],.inl rfl⟩⟩)
 have HB:=zh (zqaa b1 (zqaa b2 b3));have HTb:=zh (fun w1 (h:Below w.heap.size w w1) => And.intro (hT.call h) (hT2.call h))
 clear hd hs z1 b1 b2 z2 b3 hx hT hT2;subst hW2 hW1;go_enter Tryz.func6,Tryz.ntmps6;go_upto_region 2 with fail;generalize ((w.alloc (.cells #[.string ⟨#[97]⟩,.int .i64 2] 50)).alloc (.cells #[.string ⟨#[109]⟩] 9)).alloc (SchO (.slice (some ⟨w.heap.size,0,none⟩) 1 1) (.slice (some ⟨w.heap.size + 1,0,none⟩) 1 1) (.slice none 0 0) (.slice none 0 0)) = W at *;obtain ⟨x0,x1,x2,x3⟩:=HX.out.reads;have hb:=zqaa (zqab W (.cells #[.int .i64 1] 3)) (zqab _ (.cells #[.int .i64 3] 2));have HB1:=zh (zqaa HB.out hb);have H1:=zh (zqo4 _ _ _ _ _ _ _ _ exA (HS.out.below hb) (zql8 W 1 3 rfl) zq09 (HTb.out _ HB1.out).1 (HTb.out _ HB1.out).2 zqzn);have HW1:=zh hb;clear hb;go_wp2_with fail;refine (H1.out).mono ?_; rintro e w1 ⟨a,p,k,q,l,rfl,ha,hoa,hwa,hsa,hb⟩;have hb2:=zqaa hb (zqab w1 (.cells #[.int .u64 a.key,.int .i64 a.cnt,.slice p a.is.length k,.slice q a.ns.length l] 32));have HW2:=zh (zqaa HW1.out hb2);have HA2:=zh (show (w1.alloc (.cells #[.int .u64 a.key,.int .i64 a.cnt,.slice p a.is.length k,.slice q a.ns.length l] 32)).heap[w1.heap.size]? = some (.cells #[.int .u64 a.key,.int .i64 a.cnt,.slice p a.is.length k,.slice q a.ns.length l] 32 (0,0)) from heap_alloc_new w1 _);have HAm:=zh (ha.below (zqab w1 (.cells #[.int .u64 a.key,.int .i64 a.cnt,.slice p a.is.length k,.slice q a.ns.length l] 32)));have HAo:=zh (And.intro hoa (And.intro hwa hsa));clear hb hb2 ha hoa hwa hsa H1 x0 x1 x2 x3;go_upto_region 3 with fail;generalize w1.alloc (.cells #[.int .u64 a.key,.int .i64 a.cnt,.slice p a.is.length k,.slice q a.ns.length l] 32) = w2 at *;have HB2:=zh (zqaa HB.out HW2.out);obtain ⟨x0,x1,x2,x3⟩:=(HX.out.below HW2.out).reads;have hb:=zqaa (zqab w2 (.cells #[.int .i64 0] 3)) (zqab _ (.cells #[.int .i64 (-5)] 2));have HB3:=zh (zqaa HB2.out hb);have H2:=zh (zqo4 _ _ _ _ _ _ _ _ exB ((HS.out.below HW2.out).below hb) (zql8 w2 0 (-5) rfl) zq1a (HTb.out _ HB3.out).1 (HTb.out _ HB3.out).2 zqzp);have HW3:=zh hb;clear hb;go_wp2_with fail;refine (H2.out).mono ?_; rintro e w3 ⟨b,p',k',q',l',rfl,hb',hob,hwb,hsb,hb⟩;have hb2:=zqaa hb (zqab w3 (.cells #[.int .u64 b.key,.int .i64 b.cnt,.slice p' b.is.length k',.slice q' b.ns.length l'] 32));have HW4:=zh (zqaa HW3.out hb2);have HB4:=zh (show (w3.alloc (.cells #[.int .u64 b.key,.int .i64 b.cnt,.slice p' b.is.length k',.slice q' b.ns.length l'] 32)).heap[w3.heap.size]? = some (.cells #[.int .u64 b.key,.int .i64 b.cnt,.slice p' b.is.length k',.slice q' b.ns.length l'] 32 (0,0)) from heap_alloc_new w3 _);have HBm:=zh (hb'.below (zqab w3 (.cells #[.int .u64 b.key,.int .i64 b.cnt,.slice p' b.is.length k',.slice q' b.ns.length l'] 32)));have HBo:=zh (And.intro hob (And.intro hwb hsb));clear hb hb2 hb' hob hwb hsb H2 x0 x1 x2 x3;go_upto_region 4 with fail;generalize w3.alloc (.cells #[.int .u64 b.key,.int .i64 b.cnt,.slice p' b.is.length k',.slice q' b.ns.length l'] 32) = w4 at *;have HBb:=zh (zqaa HB2.out HW4.out);obtain ⟨x0,x1,x2,x3⟩:=row4 ((HW4.out.block _ (Array.getElem?_eq_some_iff.1 HA2.out).1).trans HA2.out);obtain ⟨y0,y1,y2,y3⟩:=row4 HB4.out;have H3:=zh (zqn6 w4 a b _ _ _ _ (HAm.out.below HW4.out) HBm.out HAo.out.2.1 HBo.out.2.1 (HAo.out.2.2.mono (by decide)) (HBo.out.2.2.mono (by decide)) (HTb.out _ HBb.out).1)
 have HEr:=zh (zq08 HAo.out.1 HBo.out.1);have HJn:=zh (fun c h => zqzl (c:=c) HAo.out.1 HBo.out.1 h)
 unfold RJ14 at H3;rw [HEr.out] at H3;clear HAo HBo HEr;go_wp2_with fail;refine (H3.out).mono ?_; rintro e w5 ⟨c,I,N,rfl,hmo,hok,-,hb⟩;have hm:=hmo.mem;clear hmo;obtain ⟨kk,ns,rfl⟩:=HJn.out c (hok (by trivial))
 obtain ⟨⟨pi,ci,rfl⟩,pn,cn,rfl⟩:=hm.slices;have hb5:=zqab w5 (.cells #[.int .u64 kk,.int .i64 2,.slice pi 1 ci,.slice pn ns.length cn] 32);obtain ⟨r0,r1,r2,r3⟩:=row4 (heap_alloc_new w5 (.cells #[.int .u64 kk,.int .i64 2,.slice pi 1 ci,.slice pn ns.length cn] 32));obtain ⟨bb,off,qq,rfl,hq⟩:=(hm.i.below hb5).at (i:=0) (by show 0 < 1; decide)
 have HB6:=zh (zqaa (zqaa HBb.out hb) hb5);clear hb hb5 H3 hok hm x0 x1 x2 x3 y0 y1 y2 y3 HJn;go_upto_region 5 with fail;generalize w5.alloc (.cells #[.int .u64 kk,.int .i64 2,.slice (some ⟨bb,off,none⟩) 1 ci,.slice pn ns.length cn] 32) = w6 at *;obtain ⟨s0,s1,s2,s3,s4,s5⟩:=hq;obtain ⟨qp,qc,rfl,-,-⟩:=id s5;have HQ:=zh s5;have hw:wg [⟨-2,8,[34],-5,3⟩] 0 = ⟨-2,8,[34],-5,3⟩:=rfl;simp only [Nat.zero_mul,Nat.add_zero] at s0 s1 s2 s3 s4;rw [hw] at s0 s1 s2 s3 s4 HQ
 dsimp only at s0 s1 s2 s3 s4 HQ
 have HSm:=zh (fun (u:Value) (w7:World) (hv:Ints .u32 w7 u [34]) (hb:Below w6.heap.size w6 w7) => zqjf (.slice qp 1 qc) u [34] [34] w7 (HQ.out.below hb) hv (by decide))
 have hdd:decide ([34] = ([34]:List Int)) = true:=by decide
 rw [hdd] at HSm;clear s5 hw hdd;go_wp2_with fail;refine (HSm.out _ _ (zqkb (k:=.u32) (w:=w6) (x:=34) (T:=27) rfl) (zqab _ _)).mono ?_; rintro e w8 ⟨rfl,hd⟩;have hb8:=zqaa (zqab w6 (.cells #[.int .u32 34] 27)) hd.below;have HB8:=zh (zqaa HB6.out hb8);have r2:=cell_later hb8 r2;have s3:=cell_later hb8 s3;have s4:=cell_later hb8 s4;clear hd hb8 HSm;go_wp2_with fail;go_ret;exact ⟨rfl,HB8.out⟩
theorem OC.same {S:Sc} {m:Int} {f:Fa} {c d:Ce} (h:OC S m f c) (k:OC S m f d):sameC c d = true :=
 same_iff.2 {
  key:=by rw [h.key,k.key]
  cnt:=by rw [h.cnt,k.cnt]
  li:=by rw [h.li,k.li]
  ln:=by rw [h.ln,k.ln]
  is:=fun i hi => by
   rw [h.li] at hi;rw [(h.is i hi).same (k.is i hi)];exact zqo8 _
  ns:=fun i hi => by
   rw [h.ln] at hi;rw [(h.ns i hi).same (k.ns i hi)];exact zqo7 _ }
theorem zqu0 {l:List Int} (hb:Bt l) (h:errN l = 0):l.length ≤ 283:=by
 have h1:=(zqd7 h).2.2.2.2.1;have h2:=(zqcx hb h).2.2.1;omega
theorem zq0o {b l:List Int} {most:Int} (hm:(l.length:Int) ≤ most) (h1:l.length ≤ 100000):FwdR b (stB b most) (fun l => encU l.length ++ l) l l:=fun p rest hd => by
 have hd2:b.drop p = encU l.length ++ (l ++ rest):=by rw [hd,List.append_assoc]
 have hg:=zqmi (x:=l.length) (by omega) (l ++ rest)
 have e:bN most (b.drop p) = (l,(encU l.length).length + l.length,0):=by
  rw [hd2];unfold bN;rw [hg];simp only [ne_eq,not_true,if_false];rw [if_neg (by omega),if_neg (by simp; omega)]
  rw [List.drop_left,Int.toNat_natCast,List.take_left]
 unfold stB;rw [if_pos rfl];simp only;rw [e];simp
theorem zqye {b:List Int} {x:Wh} (h:WhW x) (h7:x.sq.length ≤ 7):FwdR b (rdWh b) encWh x x:=fun p rest hd => by
 unfold encWh at hd;simp only [List.append_assoc] at hd;have c1:rdW1 b (p,0) = (x.sum,p + (encI x.sum).length,0):=zqfi h.sum.1 h.sum.2 p _ hd;have hd2:=zqbc hd;have c2:rdW2 b (p,0) = (x.abs,p + (encI x.sum).length + (encI x.abs).length,0):=by unfold rdW2; rw [c1]; exact zqfi h.abs.1 h.abs.2 _ _ hd2
 have hd3:=zqbc hd2;have c3:rdW3 b (p,0) = ((x.sq.length:Int),p + (encI x.sum).length + (encI x.abs).length + (encU x.sq.length).length,0):=by unfold rdW3; rw [c2]; exact zqkd hd3 (by omega) (by omega)
 have hd4:=zqbc hd3;have e4:=zqe5 (b:=b) (rd:=fun _ s => stU b 4294967295 s) (enc:=eU) (g:=fun x => x) (l:=x.sq) (fun k y hk p rest hd => by
  have hy:=h.sq y (List.mem_of_getElem? hk);have ez:((y.toNat:Nat):Int) = y:=by omega
  have:=zqkd (most:=4294967295) hd (by omega) (by omega)
  rw [ez] at this;exact this) _ _ hd4
 simp only [List.map_id'] at e4;have c4:rdW4 b (p,0) = (x.sq,p + (encI x.sum).length + (encI x.abs).length + (encU x.sq.length).length + (x.sq.flatMap eU).length,0):=by unfold rdW4 rdSq; rw [c3]; exact e4
 have hd5:=zqbc hd4;have c5:rdW5 b (p,0) = (x.mn,p + (encI x.sum).length + (encI x.abs).length + (encU x.sq.length).length + (x.sq.flatMap eU).length + (encI x.mn).length,0):=by unfold rdW5; rw [c4]; exact zqfi h.mn.1 h.mn.2 _ _ hd5
 have hd6:=zqbc hd5;have c6:rdW6 b (p,0) = (x.mx,p + (encI x.sum).length + (encI x.abs).length + (encU x.sq.length).length + (x.sq.flatMap eU).length + (encI x.mn).length + (encI x.mx).length,0):=by unfold rdW6; rw [c5]; exact zqfi h.mx.1 h.mx.2 _ _ hd6
 unfold rdWh encWh;rw [c1,c2,c4,c5,c6];simp only [List.length_append,Nat.add_assoc]
def normRe (x:Re):Re:=⟨x.sum,fromN (keyI x.mn),fromN (keyI x.mx)⟩
def normCe (c:Ce):Ce:=⟨c.key,c.cnt,c.is,c.ns.map normRe⟩
theorem zqyd {b:List Int} {x:Re} (h:ReW x) (hl:x.sum.length ≤ 283):FwdR b (rdRe b) encRe x (normRe x):=fun p rest hd => by
 unfold encRe at hd;have hd0:b.drop p = (encU x.sum.length ++ x.sum) ++ (eN x.mn ++ (eN x.mx ++ rest)):=by rw [hd]; simp only [List.append_assoc]
 have c1:rdR1 b (p,0) = (x.sum,p + (encU x.sum.length ++ x.sum).length,0):=zq0o (by omega) (by omega) p _ hd0
 have hd2:=zqbc hd0;have c2:rdR2 b (p,0) = (fromN (keyI x.mn),p + (encU x.sum.length ++ x.sum).length + (eN x.mn).length,0):=by unfold rdR2; rw [c1]; exact zqpd (zqb6 h.mn) _ _ hd2
 have hd3:=zqbc hd2;have c3:rdR3 b (p,0) = (fromN (keyI x.mx),p + (encU x.sum.length ++ x.sum).length + (eN x.mn).length + (eN x.mx).length,0):=by unfold rdR3; rw [c2]; exact zqpd (zqb6 h.mx) _ _ hd3
 unfold rdRe encRe normRe;rw [c1,c2,c3];simp only [List.length_append,Nat.add_assoc]
theorem zqyc {b:List Int} {c:Ce} (hc:CeW c) (h7:∀ x ∈ c.is,x.sq.length ≤ 7) (h283:∀ x ∈ c.ns,x.sum.length ≤ 283):FwdR b (rdCe b c.is.length c.ns.length) encC c (normCe c):=fun p rest hd => by
 have hk:=hc.key;unfold encC at hd;simp only [List.append_assoc] at hd;have ez:((c.key.toNat:Nat):Int) = c.key:=by omega
 have c1:rdC1 b (p,0) = (c.key,p + (encU c.key.toNat).length,0):=by
  have:=zqkd (most:=18446744073709551615) hd (by omega) (by omega)
  rw [ez] at this;exact this
 have hd2:=zqbc hd;have c2:rdC2 b (p,0) = (c.cnt,p + (encU c.key.toNat).length + (encI c.cnt).length,0):=by unfold rdC2; rw [c1]; exact zqfi hc.cnt.1 hc.cnt.2 _ _ hd2
 have hd3:=zqbc hd2;have e3:=zqe5 (b:=b) (rd:=fun _ s => rdWh b s) (enc:=encWh) (g:=fun x => x) (l:=c.is) (fun k x hk => zqye (hc.is x (List.mem_of_getElem? hk)) (h7 x (List.mem_of_getElem? hk))) _ _ hd3
 simp only [List.map_id'] at e3;have c3:rdC3 b c.is.length (p,0) = (c.is,p + (encU c.key.toNat).length + (encI c.cnt).length + (c.is.flatMap encWh).length,0):=by unfold rdC3; rw [c2]; exact e3
 have hd4:=zqbc hd3;have e4:=zqe5 (b:=b) (rd:=fun _ s => rdRe b s) (enc:=encRe) (g:=normRe) (l:=c.ns) (fun k x hk => zqyd (hc.ns x (List.mem_of_getElem? hk)) (h283 x (List.mem_of_getElem? hk))) _ _ hd4
 have c4:rdC4 b c.is.length c.ns.length (p,0) = (c.ns.map normRe,p + (encU c.key.toNat).length + (encI c.cnt).length + (c.is.flatMap encWh).length + (c.ns.flatMap encRe).length,0):=by unfold rdC4; rw [c3]; exact e4
 unfold rdCe encC normCe;rw [c1,c2,c3,c4];simp only [List.length_append,Nat.add_assoc]
theorem zqer {x:Nat} (hx:W64 x):keyI (fromN (keyI x)) = keyI x:=(zqbz (zqb6 hx)).2.1
theorem zqhp {x:Re} (h:ReW x):rightR (normRe x) = rightR x:=by
 unfold rightR normRe lessB;simp only;rw [zqer h.mx,zqer h.mn]
theorem zqob {x:Re} (h:ReW x):sameRe x (normRe x) = true:=by
 unfold sameRe normRe sameB;simp only;rw [zqer h.mx,zqer h.mn];simp
theorem zqj9 {l:List Re} {k:Nat} (hk:k < l.length):rg (l.map normRe) k = normRe (rg l k):=by
 rw [zqax (by simpa using hk),zqax hk,List.getElem_map]
theorem zqr2 {l:List Re} (h:∀ x ∈ l,ReW x):allR (l.map normRe) = allR l:=by
 have hw:∀ k,k < l.length → ReW (rg l k):=fun k hk => by rw [zqax hk]; exact h _ (List.getElem_mem hk)
 by_cases ha:∀ k,k < l.length → rightR (rg l k) = true
 ·rw [zqfm ha];exact zqfm fun k hk => by
   have hk2:k < l.length:=by simpa using hk
   rw [zqj9 hk2,zqhp (hw k hk2)]; exact ha k hk2
 ·obtain ⟨k,hk,hr⟩:∃ k,k < l.length ∧ rightR (rg l k) = false:=by
   by_cases hh:∃ k,k < l.length ∧ rightR (rg l k) = false
   ·exact hh
   ·exact absurd (fun k hk => by
     cases e:rightR (rg l k) with
     | true => rfl
     | false => exact absurd ⟨k,hk,e⟩ hh) ha
  rw [zqfc hk hr];exact zqfc (k:=k) (by simpa using hk) (by rw [zqj9 hk,zqhp (hw k hk)]; exact hr)
theorem zqrd {S:Sc} {m:Int} {c:Ce} (h:CeW c):rightC S m (normCe c) = rightC S m c:=by
 unfold rightC validC normCe;simp only;rw [zqr2 h.ns,List.length_map]
theorem zqrm {c:Ce} (h:CeW c):sameC c (normCe c) = true :=
 same_iff.2 ⟨rfl,rfl,rfl,by simp [normCe],fun k _ => by simp [normCe,sameWh],fun k hk => by
  show sameRe (rg c.ns k) (rg (c.ns.map normRe) k) = true
  rw [zqj9 hk]; exact zqob (by rw [zqax hk]; exact h.ns _ (List.getElem_mem hk))⟩
theorem ReW.norm {x:Re} (h:ReW x):ReW (normRe x):=⟨h.sum,h.len,(zqbz (zqb6 h.mn)).1,(zqbz (zqb6 h.mx)).1⟩
theorem CeW.norm {c:Ce} (h:CeW c):CeW (normCe c):=⟨h.key,h.cnt,h.is,fun x hx => by
 obtain ⟨y,hy,rfl⟩:=List.mem_map.1 hx;exact (h.ns y hy).norm⟩
theorem zqn8 {S:Sc} {m:Int} {c:Ce} (h:CeW c) (hr:rightC S m c = true):c.is.length = S.is.length ∧ c.ns.length = S.ns.length ∧ (∀ x ∈ c.is,x.sq.length ≤ 7) ∧ ∀ x ∈ c.ns,x.sum.length ≤ 283:=by
 unfold rightC validC at hr;simp only [Bool.and_eq_true,decide_eq_true_eq] at hr;obtain ⟨-,⟨⟨⟨-,h1⟩,h2⟩,h3⟩,h4⟩:=hr;refine ⟨h1,h2,fun x hx => ?_,fun x hx => ?_⟩
 ·obtain ⟨k,hk,rfl⟩:=List.getElem_of_mem hx;cases e:rightW (wg c.is k) with
  | false => rw [zqju hk e] at h3; cases h3
  | true =>
   rw [zqa5 hk] at e;unfold rightW at e;simp only [Bool.and_eq_true,decide_eq_true_eq] at e;exact e.1.2
 ·obtain ⟨k,hk,rfl⟩:=List.getElem_of_mem hx;cases e:rightR (rg c.ns k) with
  | false => rw [zqfc hk e] at h4; cases h4
  | true =>
   rw [zqax hk] at e;unfold rightR at e;simp only [Bool.and_eq_true,decide_eq_true_eq] at e;exact zqu0 (h.ns _ hx).sum e.1
theorem zquj {S:Sc} {m:Int} {c:Ce} (h:CeW c) (hr:rightC S m c = true) (rest:List Int) :
  rdCe (encC c ++ rest) S.is.length S.ns.length (0,0) = (normCe c,(encC c).length,0) ∧ rightC S m (normCe c) = true:=by
 obtain ⟨h1,h2,h3,h4⟩:=zqn8 h hr;have e:=zqyc (b:=encC c ++ rest) h h3 h4 0 rest rfl;rw [h1,h2,Nat.zero_add] at e;exact ⟨e,by rw [zqrd h]; exact hr⟩
theorem zq1w {b:List Int} (hb:Bt b) (s:Nat × Nat):WhW (rdWh b s).1 where
 sum:=zqfj hb _
 abs:=zqfj hb _
 sq:=fun z hz => by
  obtain ⟨j,hj,e⟩:=List.getElem_of_mem hz;exact zqes (rd:=fun _ s => stU b 4294967295 s) (Q:=fun _ x => 0 ≤ x ∧ x ≤ 4294967295) (fun _ s => zqd5 hb (by decide) s) (rdW3 b s).2 (rdW3 b s).1.toNat j z (by rw [← e]; exact List.getElem?_eq_getElem hj)
 len:=by
  have h1:=(zqd5 hb (most:=7) (by decide) (rdW2 b s).2).2
  have h2:=(zqbt (rd:=fun _ s => stU b 4294967295 s) (P:=fun _ => True) (fun _ _ _ => True.intro) (s:=(rdW3 b s).2) True.intro (rdW3 b s).1.toNat).2
  change (rdW3 b s).1 ≤ 7 at h1
  show (rdW4 b s).1.length ≤ _
  unfold rdW4 rdSq;omega
 mn:=zqfj hb _
 mx:=zqfj hb _
theorem zq1v {b:List Int} (hb:Bt b) (s:Nat × Nat):ReW (rdRe b s).1 where
 sum:=(zqpc hb (by decide) _).1
 len:=by
  have h:=(zqpc hb (most:=283) (by decide) s).2
  show (rdR1 b s).1.length ≤ _
  unfold rdR1;omega
 mn:=zqpe _
 mx:=zqpe _
theorem zq1u {b:List Int} (hb:Bt b) (ni nn:Nat) (s:Nat × Nat):CeW (rdCe b ni nn s).1 where
 key:=zqd5 hb (by decide) _
 cnt:=zqfj hb _
 is:=fun x hx => by
  obtain ⟨j,hj,e⟩:=List.getElem_of_mem hx;exact zqes (rd:=fun _ s => rdWh b s) (Q:=fun _ x => WhW x) (fun _ s => zq1w hb s) (rdC2 b s).2 ni j x (by rw [← e]; exact List.getElem?_eq_getElem hj)
 ns:=fun x hx => by
  obtain ⟨j,hj,e⟩:=List.getElem_of_mem hx;exact zqes (rd:=fun _ s => rdRe b s) (Q:=fun _ x => ReW x) (fun _ s => zq1v hb s) (rdC3 b ni s).2 nn j x (by rw [← e]; exact List.getElem?_eq_getElem hj)
def gotE (S:Sc) (m:Int) (b:List Int):Nat:=if checkL S = 0 ∧ m ≤ fullL S.ds then if (rdCe b S.is.length S.ns.length (0,0)).2.2 = 0 then if rightC S m (rdCe b S.is.length S.ns.length (0,0)).1 = true then 0 else 6 else (rdCe b S.is.length S.ns.length (0,0)).2.2 else codE S m 0
def gotC (S:Sc) (m:Int) (b:List Int):Ce:=if gotE S m b = 0 then (rdCe b S.is.length S.ns.length (0,0)).1 else ce0
def gotN (S:Sc) (m:Int) (b:List Int):Nat:=if gotE S m b = 0 then (rdCe b S.is.length S.ns.length (0,0)).2.1 else 0
def GotP (w:World) (S:Sc) (m:Int) (b:List Int) (r:Ending) (w':World):Prop :=
 (∃ I M,r = .returned (.tuple #[CeV (gotC S m b) I M,.int .i64 (gotN S m b:Nat),.int .i64 (gotE S m b:Nat)]) ∧ CeM w' I M (gotC S m b)) ∧ Below w.heap.size w w'
theorem zq1f {w w':World} {S:Sc} {m:Int} {b:List Int} (e:Nat) (h:gotE S m b = e) (h0:e ≠ 0) (hb:Below w.heap.size w w'):GotP w S m b (.returned (.tuple #[CeV ce0 (.slice none 0 0) (.slice none 0 0),.int .i64 0,.int .i64 e])) w':=by
 have h1:gotE S m b ≠ 0:=by omega
 have h2:gotC S m b = ce0:=by unfold gotC; rw [if_neg h1]
 have h3:gotN S m b = 0:=by unfold gotN; rw [if_neg h1]
 exact ⟨⟨_,_,by rw [h2,h3,h]; rfl,by rw [h2]; exact zqoj w'⟩,hb⟩
theorem zqzt {w w':World} {S:Sc} {m:Int} {b:List Int} {I M:Value} (h:gotE S m b = 0) (hm:CeM w' I M (rdCe b S.is.length S.ns.length (0,0)).1) (hb:Below w.heap.size w w'):GotP w S m b (.returned (.tuple #[CeV (rdCe b S.is.length S.ns.length (0,0)).1 I M,.int .i64 ((rdCe b S.is.length S.ns.length (0,0)).2.1:Nat),.int .i64 0])) w':=by
 have h2:gotC S m b = (rdCe b S.is.length S.ns.length (0,0)).1:=by unfold gotC; rw [if_pos h]
 have h3:gotN S m b = (rdCe b S.is.length S.ns.length (0,0)).2.1:=by unfold gotN; rw [if_pos h]
 exact ⟨⟨_,_,by rw [h2,h3,h]; rfl,by rw [h2]; exact hm⟩,hb⟩
theorem zq0i {w:World} {T R:Nat} {k n:Int} {I N:Value} {o:Obj} (h:w.heap[T]? = some o) (hne:T ≠ R):(set4 w R k n I N).heap[T]? = some o :=
 zqaj (zqaj (zqaj (zqaj h (zqae _ R 0 _) hne) (zqae _ R 1 _) hne) (zqae _ R 2 _) hne) (zqae _ R 3 _) hne
theorem zqys {w:World} {R B:Nat} {k n k' n':Int} {I N I' N' P Q:Value} {c:Ce} (h:w.heap[R]? = some (.cells (boxV k n I N) 32 (0,0))) (ho:CeOwn w B P Q c):CeOwn (set4 w R k' n' I' N') B P Q c:=by
 have h1:=zqf7 (x:=k') h;have h2:=zqf8 (x:=n') h1;have h3:=zqda (u:=I') h2;exact (((ho.setbox h (by decide) (by decide) (by decide) (by decide)).setbox h1 (by decide) (by decide) (by decide) (by decide)).setbox h2 (by decide) (by decide) (by decide) (by decide)).setbox h3 (by decide) (by decide) (by decide) (by decide)
set_option maxHeartbeats 16000000 in
theorem zqqz (w:World) (D I M V v:Value) (S:Sc) (m:Int) (b:List Int) (h:Sch4 w D I M V S) (hw:SWf S) (hv:Ints .u8 w v b) (hb:Bt b) (hl:b.length ≤ 20000) (m0:0 ≤ m) (m1:m ≤ 4294967295) :
  Calls Tryz.prog 9 #[SchV D I M V,.int .u32 m,v] w (GotP w S m b):=by
 have hb1:=zqab w (SchO D I M V);have hb2:=zqab (w.alloc (SchO D I M V)) (.cells #[.int .u64 0,.int .i64 0,.slice none 0 0,.slice none 0 0] 32);have HB:=zh (zqaa hb1 hb2);have HX:=zh ((zqa7 w D I M V).below hb2);have hy:=heap_alloc_new (w.alloc (SchO D I M V)) (.cells #[.int .u64 0,.int .i64 0,.slice none 0 0,.slice none 0 0] 32);rw [World.size_alloc] at hy;have HR:=zh (show ((w.alloc (SchO D I M V)).alloc (.cells #[.int .u64 0,.int .i64 0,.slice none 0 0,.slice none 0 0] 32)).heap[w.heap.size + 1]? = some (.cells (boxV 0 0 (.slice none 0 0) (.slice none 0 0)) 32 (0,0)) from hy);have HK:=zh (fun w1 (hb:Below w.heap.size w w1) => zqmr w1 D I M V S m (h.below hb) hw m0 m1)
 have HNo:=zh (fun (w':World) (e:Nat) (he:gotE S m b = e ∧ e ≠ 0) (hb:Below w.heap.size w w') => zq1f (w:=w) (w':=w') e he.1 he.2 hb)
 by_cases hk:checkL S = 0 ∧ m ≤ fullL S.ds
 ·have hcn:=zqcf.1 (zqfq hk.1).1;have HNw:=zh (fun w1 (hb1:Below w.heap.size w w1) => zqt3 v b w1 (hv.below hb1) hb hl)
  have HRd:=zh (fun w1 N (hb1:Below w.heap.size w w1) (hi:InAt w1 N b 0 0) => zqn7 w1 D I M V S N b (0,0) (h.below hb1) hi ⟨Nat.zero_le _,by decide⟩ hb (by omega))
  have hst:=(zq0c (b:=b) hb S.is.length S.ns.length (s:=(0,0)) ⟨Nat.zero_le _,by decide⟩).1
  have HFt:=zh (fun w1 N (hi:InAt w1 N b (rdCe b S.is.length S.ns.length (0,0)).2.1 (rdCe b S.is.length S.ns.length (0,0)).2.2) => zqwk w1 N b _ hi hst.2)
  have HV:=zh (fun w1 P Q (hb1:Below w.heap.size w w1) (hm:CeM w1 P Q (rdCe b S.is.length S.ns.length (0,0)).1) => zqvn w1 D I M V P Q S (keysL S.ds m S.ds.length) _ (h.below hb1) hm (zq1u hb _ _ _))
  have HRc:=zh (show rightC S m (rdCe b S.is.length S.ns.length (0,0)).1 = validC S (keysL S.ds m S.ds.length) (rdCe b S.is.length S.ns.length (0,0)).1 by unfold rightC; rw [decide_eq_true hk,Bool.true_and])
  have HE1:=zh (fun (h0:(rdCe b S.is.length S.ns.length (0,0)).2.2 ≠ 0) => show gotE S m b = (rdCe b S.is.length S.ns.length (0,0)).2.2 by unfold gotE; rw [if_pos hk,if_neg h0])
  have HE2:=zh (fun (h0:(rdCe b S.is.length S.ns.length (0,0)).2.2 = 0) (h1:validC S (keysL S.ds m S.ds.length) (rdCe b S.is.length S.ns.length (0,0)).1 = false) => show gotE S m b = 6 by unfold gotE; rw [if_pos hk,if_pos h0,HRc.out,h1]; rfl)
  have HE3:=zh (fun (h0:(rdCe b S.is.length S.ns.length (0,0)).2.2 = 0) (h1:validC S (keysL S.ds m S.ds.length) (rdCe b S.is.length S.ns.length (0,0)).1 = true) => show gotE S m b = 0 by unfold gotE; rw [if_pos hk,if_pos h0,HRc.out,h1]; rfl)
  have HYes:=zh (fun (w':World) (P Q:Value) (he:gotE S m b = 0) (hm:CeM w' P Q (rdCe b S.is.length S.ns.length (0,0)).1) (hb:Below w.heap.size w w') => zqzt (w:=w) he hm hb)
  have hle:=hst.1;rw [if_pos hk,decide_eq_true hk] at HK;obtain ⟨⟨a1,c1,rfl⟩,⟨a2,c2,rfl⟩,⟨a3,c3,rfl⟩,a4,c4,rfl⟩:=h.slices;obtain ⟨va,vc,rfl,-,-⟩:=hv;generalize hcr:rdCe b S.is.length S.ns.length (0,0) = cr at *;obtain ⟨c,p,e⟩:=cr;simp only at HRd HFt HV HE1 HE2 HE3 HYes hle;generalize validC S (keysL S.ds m S.ds.length) c = vd at *;generalize keysL S.ds m S.ds.length = ky at *;generalize hGE:gotE S m b = E at *;generalize GotP w S m b = GP at *;generalize S.is.length = ni at *;generalize S.ns.length = nn at *;generalize S.ds.length = nd at *;generalize S.vs.length = nvs at *;clear h hw hb hk hb1 hb2 hy HRc hst hcn hcr m0 m1;go_enter Tryz.func9,Tryz.ntmps9;go_upto_region 1 with fail;generalize (w.alloc (SchO (.slice a1 nd c1) (.slice a2 ni c2) (.slice a3 nn c3) (.slice a4 nvs c4))).alloc (.cells #[.int .u64 0,.int .i64 0,.slice none 0 0,.slice none 0 0] 32) = W0 at *;obtain ⟨x0,x1,x2,x3⟩:=HX.out.reads;go_wp2_with fail;refine (HK.out _ HB.out).mono ?_; rintro r w1 ⟨rfl,hb1⟩;have HB1:=zh (zqaa HB.out hb1);have HX1:=zh (HX.out.below hb1);have HR1:=zh ((hb1.block _ (Array.getElem?_eq_some_iff.1 HR.out).1).trans HR.out);clear hb1 x0 x1 x2 x3;go_wp2_with fail;refine (HNw.out _ HB1.out).mono ?_; rintro r w2 ⟨N,rfl,hN,hi2,hb2⟩;have HB2:=zh (zqaa HB1.out hb2);have HX2:=zh (HX1.out.below hb2);have HR2:=zh ((hb2.block _ (Array.getElem?_eq_some_iff.1 HR1.out).1).trans HR1.out);have HI2:=zh hi2;have hwN:w.heap.size + 1 < N:=by have:=(Array.getElem?_eq_some_iff.1 HR1.out).1; omega
  clear hi2 hb2 hN;obtain ⟨x0,x1,x2,x3⟩:=HX2.out.reads;go_wp2_with fail;refine (HRd.out _ _ HB2.out HI2.out).mono ?_; rintro r w3 ⟨⟨P,Q,rfl,ho⟩,hi3,hg3⟩;have HB3:=zh (below_grown HB2.out hg3 (by omega))
  have HX3:=zh (HX2.out.grown hg3 (by omega))
  have HR3:=zh (zqaj HR2.out hg3 (by omega))
  obtain ⟨⟨pp,pk,rfl⟩,qp,qk,rfl⟩:=ho.slices;have HO:=zh (ho.low HB2.out.size);have HI3:=zh hi3;clear ho hi3 hg3 x0 x1 x2 x3;have HT:=zh (zqab w3 (.cells #[.int .u64 c.key,.int .i64 c.cnt,.slice pp c.is.length pk,.slice qp c.ns.length qk] 32));have HTc:=zh (show (w3.alloc (.cells #[.int .u64 c.key,.int .i64 c.cnt,.slice pp c.is.length pk,.slice qp c.ns.length qk] 32)).heap[w3.heap.size]? = some (.cells (boxV c.key c.cnt (.slice pp c.is.length pk) (.slice qp c.ns.length qk)) 32 (0,0)) from heap_alloc_new w3 _);go_upto_region 7 with fail;generalize w3.alloc (.cells #[.int .u64 c.key,.int .i64 c.cnt,.slice pp c.is.length pk,.slice qp c.ns.length qk] 32) = w4 at *;have HB4:=zh (zqaa HB3.out HT.out);have HX4:=zh (HX3.out.below HT.out);have HR4:=zh ((HT.out.block _ (Array.getElem?_eq_some_iff.1 HR3.out).1).trans HR3.out);have HO4:=zh (HO.out.below HT.out);have HI4:=zh (HI3.out.below HT.out);have hT:w.heap.size + 1 < w3.heap.size:=(Array.getElem?_eq_some_iff.1 HR3.out).1;generalize w3.heap.size = T at *;clear HT;go_wp2_with fail;refine (HFt.out _ _ HI4.out).mono ?_; rintro r w5 ⟨⟨q,rfl⟩,rfl⟩
  by_cases he:e = 0
  ·subst he;obtain ⟨x0,x1,x2,x3⟩:=HX4.out.reads;obtain ⟨⟨t0,t1,t2,t3⟩,-⟩:=zqad HTc.out;have HVc:=zh (HV.out _ _ _ HB4.out HO4.out.mem);go_wp2_with fail;refine (HVc.out).mono ?_; rintro r w6 ⟨rfl,hb6⟩;have HB6:=zh (zqaa HB4.out hb6);have HR6:=zh ((hb6.block _ (Array.getElem?_eq_some_iff.1 HR4.out).1).trans HR4.out);have HT6:=zh ((hb6.block _ (Array.getElem?_eq_some_iff.1 HTc.out).1).trans HTc.out);have HO6:=zh (HO4.out.below hb6);have HI6:=zh (HI4.out.below hb6);clear hb6 x0 x1 x2 x3 t0 t1 t2 t3;cases vd with
   | false =>
    have hE:=HE2.out (by trivial) (by trivial)
    obtain ⟨⟨r0,r1,r2,r3⟩,rf⟩:=zqad HR6.out;go_wp2_with fail;have hs4:=zqb0 (k':=0) (n':=0) (I':=.slice none 0 0) (N':=.slice none 0 0) (HR6.out);have hbl:=zqbi (R:=w.heap.size + 1) (k':=0) (n':=0) (I':=.slice none 0 0) (N':=.slice none 0 0) HB6.out (by omega)
    unfold set4 at hs4 hbl;generalize (((w6.setCell ⟨w.heap.size + 1,0,none⟩ (.int .u64 0)).setCell ⟨w.heap.size + 1,1,none⟩ (.int .i64 0)).setCell ⟨w.heap.size + 1,2,none⟩ (.slice none 0 0)).setCell ⟨w.heap.size + 1,3,none⟩ (.slice none 0 0) = W4 at *;obtain ⟨⟨s0,s1,s2,s3⟩,-⟩:=zqad hs4;exact bodyPost_ret (v:=.tuple #[CeV ce0 (.slice none 0 0) (.slice none 0 0),.int .i64 0,.int .i64 6]) (by simp [results,Tryz.results9,go_sem,ce0,s0,s1,s2,s3]) rfl (HNo.out _ _ (by exact ⟨hE,by decide⟩) hbl)
   | true =>
    have hE:=HE3.out (by trivial) (by trivial)
    have HL:=zh (fun w1 (hi:InAt w1 N b p 0) => zqxe w1 N b p hi)
    have i5:IntKind.i64.wrap ((b.length:Int) - ((b.length - p:Nat):Int)) = (p:Int):=by rw [IntWalk.i64_in _ (by omega)]; omega
    have i6:wrap64 ((b.length:Int) - ((b.length - p:Nat):Int)) = (p:Int):=by rw [wrap64_in (by omega) (by omega)]; omega
    go_upto_region 12 with fail;obtain ⟨hk0,-⟩:=zqad HT6.out;have hk:w6.drew.cell? ⟨T,0,none⟩ = some (.int .u64 c.key) ∧ w6.drew.cell? ⟨T,1,none⟩ = some (.int .i64 c.cnt) ∧ w6.drew.cell? ⟨T,2,none⟩ = some (.slice pp c.is.length pk) ∧ w6.drew.cell? ⟨T,3,none⟩ = some (.slice qp c.ns.length qk):=hk0;have hB:Below w6.heap.size w6 w6.drew:=(Below.refl _ _).drew;clear hk0;refine wp_region_held_drew (S:=fun w' => w'.cell? ⟨T,0,none⟩ = some (.int .u64 c.key) ∧ w'.cell? ⟨T,1,none⟩ = some (.int .i64 c.cnt) ∧ w'.cell? ⟨T,2,none⟩ = some (.slice pp c.is.length pk) ∧ w'.cell? ⟨T,3,none⟩ = some (.slice qp c.ns.length qk)) (by kernel_rfl) hk (fun _ => ?_)
    refine tkA 0 53 (.agg #[.int .u64 c.key,.int .i64 c.cnt,.slice pp c.is.length pk,.slice qp c.ns.length qk]) rfl hk ?_;try simp only [pS]
    refine tkA 1 54 (.slice va b.length vc) rfl hk ?_;try simp only [pS]
    refine tkA 2 55 (.int .i64 b.length) rfl hk ?_;try simp only [pS]
    refine tkA 3 56 (.pointer (some ⟨N,0,none⟩)) rfl hk ?_;try simp only [pS]
    refine wpAnyH_ready (rs:=[4]) (by kernel_rfl) (by simp) (AllReadyH.cons rfl (fun K' hK => ?_) AllReadyH.nil)
    rw [if_pos (by kernel_rfl)]
    go_simp;go_at_call 32;refine (HL.out _ (HI6.out.below hB)).mono ?_; rintro r w7 ⟨rfl,hb⟩;replace hB:=zqaa hB hb;have HB7:=zh (zqaa HB6.out hB);have HR7:=zh ((hB.block _ (Array.getElem?_eq_some_iff.1 HR6.out).1).trans HR6.out);have HT7:=zh ((hB.block _ (Array.getElem?_eq_some_iff.1 HT6.out).1).trans HT6.out);have HO7:=zh (HO6.out.below hB);replace hk:=(zqad HT7.out).1;clear hb hB;refine hK.out _ _ hk (fun _ => ?_)
    try simp only [pS]
    clear hK;refine tkA 5 58 (.int .i64 (p:Nat)) rfl hk ?_;try simp only [pS]
    obtain ⟨⟨r0,r1,r2,r3⟩,rf⟩:=zqad HR7.out;refine wpAnyH_ready (rs:=[6]) (by kernel_rfl) (by simp) (AllReadyH.cons rfl (fun K' hK => ?_) AllReadyH.nil)
    rw [if_pos (by kernel_rfl)]
    go_simp;have hs4:=zqb0 (k':=c.key) (n':=c.cnt) (I':=.slice pp c.is.length pk) (N':=.slice qp c.ns.length qk) HR7.out;have hbl:=zqbi (R:=w.heap.size + 1) (k':=c.key) (n':=c.cnt) (I':=.slice pp c.is.length pk) (N':=.slice qp c.ns.length qk) HB7.out (by omega)
    have hT9:=zq0i (R:=w.heap.size + 1) (k:=c.key) (n:=c.cnt) (I:=.slice pp c.is.length pk) (N:=.slice qp c.ns.length qk) HT7.out (by omega)
    have hO9:=zqys (k':=c.key) (n':=c.cnt) (I':=.slice pp c.is.length pk) (N':=.slice qp c.ns.length qk) HR7.out HO7.out;unfold set4 at hs4 hbl hT9 hO9;replace hk:=(zqad hT9).1;clear r0 r1 r2 r3 rf;refine hK.out _ _ hk (fun _ => ?_)
    try simp only [pS]
    clear hK;generalize (((w7.setCell ⟨w.heap.size + 1,0,none⟩ (.int .u64 c.key)).setCell ⟨w.heap.size + 1,1,none⟩ (.int .i64 c.cnt)).setCell ⟨w.heap.size + 1,2,none⟩ (.slice pp c.is.length pk)).setCell ⟨w.heap.size + 1,3,none⟩ (.slice qp c.ns.length qk) = W9 at *;refine tkA 7 7 (.int .i64 (p:Nat)) rfl hk ?_;try simp only [pS]
    refine tkA 8 8 (.int .i64 0) rfl hk ?_;try simp only [pS]
    refine wpAnyH_done (by kernel_rfl) ?_ _
    clear hk hT9;obtain ⟨⟨s0,s1,s2,s3⟩,-⟩:=zqad hs4;go_wp2_with fail;exact bodyPost_ret (v:=.tuple #[CeV c (.slice pp c.is.length pk) (.slice qp c.ns.length qk),.int .i64 (p:Nat),.int .i64 0]) (by simp [results,Tryz.results9,go_sem,s0,s1,s2,s3]) rfl (HYes.out _ _ _ hE hO9.mem hbl)
  ·have hE:=HE1.out he;have he2:((e:Int) != 0) = true:=by simp; omega
   obtain ⟨⟨r0,r1,r2,r3⟩,rf⟩:=zqad HR4.out;go_wp2_with fail;have hs4:=zqb0 (k':=0) (n':=0) (I':=.slice none 0 0) (N':=.slice none 0 0) (HR4.out);have hbl:=zqbi (R:=w.heap.size + 1) (k':=0) (n':=0) (I':=.slice none 0 0) (N':=.slice none 0 0) HB4.out (by omega)
   unfold set4 at hs4 hbl;generalize (((w4.setCell ⟨w.heap.size + 1,0,none⟩ (.int .u64 0)).setCell ⟨w.heap.size + 1,1,none⟩ (.int .i64 0)).setCell ⟨w.heap.size + 1,2,none⟩ (.slice none 0 0)).setCell ⟨w.heap.size + 1,3,none⟩ (.slice none 0 0) = W4 at *;obtain ⟨⟨s0,s1,s2,s3⟩,-⟩:=zqad hs4;exact bodyPost_ret (v:=.tuple #[CeV ce0 (.slice none 0 0) (.slice none 0 0),.int .i64 0,.int .i64 e]) (by simp [results,Tryz.results9,go_sem,ce0,s0,s1,s2,s3]) rfl (HNo.out _ _ (by exact ⟨hE,he⟩) hbl)
 ·have HC:=zh (fun w1 (hb1:Below w.heap.size w w1) => zqsm w1 D I M V S m 0 (h.below hb1) hw m0 m1 (by decide) (by decide))
  have hE:gotE S m b = codE S m 0:=by unfold gotE; rw [if_neg hk]
  have hE0:codE S m 0 ≠ 0:=by
   unfold codE numE
   by_cases h1:checkL S = 0
   ·have h2:¬ m ≤ fullL S.ds:=fun h2 => hk ⟨h1,h2⟩
    rw [if_pos h1,if_neg h2]; simp
   ·rw [if_neg h1]; simp
  rw [if_neg hk,decide_eq_false hk] at HK;unfold CodesR at HC;obtain ⟨⟨a1,c1,rfl⟩,⟨a2,c2,rfl⟩,⟨a3,c3,rfl⟩,a4,c4,rfl⟩:=h.slices;obtain ⟨va,vc,rfl,-,-⟩:=hv;rw [hE] at HNo;generalize codE S m 0 = ce at *;generalize GotP w S m b = GP at *;generalize S.is.length = ni at *;generalize S.ns.length = nn at *;generalize S.ds.length = nd at *;generalize S.vs.length = nvs at *;clear h hw hb hk hb1 hb2 hy m0 m1 hE;go_enter Tryz.func9,Tryz.ntmps9;go_upto_region 1 with fail;generalize (w.alloc (SchO (.slice a1 nd c1) (.slice a2 ni c2) (.slice a3 nn c3) (.slice a4 nvs c4))).alloc (.cells #[.int .u64 0,.int .i64 0,.slice none 0 0,.slice none 0 0] 32) = W0 at *;obtain ⟨x0,x1,x2,x3⟩:=HX.out.reads;go_wp2_with fail;refine (HK.out _ HB.out).mono ?_; rintro r w1 ⟨rfl,hb1⟩;have HB1:=zh (zqaa HB.out hb1);have HX1:=zh (HX.out.below hb1);have HR1:=zh ((hb1.block _ (Array.getElem?_eq_some_iff.1 HR.out).1).trans HR.out);clear hb1 x0 x1 x2 x3;obtain ⟨x0,x1,x2,x3⟩:=HX1.out.reads;go_wp2_with fail;refine (HC.out _ HB1.out).mono ?_; rintro r w2 ⟨⟨u,rfl,ho⟩,hb2⟩;have HB2:=zh (zqaa HB1.out hb2);have HR2:=zh ((hb2.block _ (Array.getElem?_eq_some_iff.1 HR1.out).1).trans HR1.out);obtain ⟨ua,ul,rfl⟩:=zqag ho;clear hb2 ho x0 x1 x2 x3;obtain ⟨⟨r0,r1,r2,r3⟩,rf⟩:=zqad HR2.out;go_wp2_with fail;have hs4:=zqb0 (k':=0) (n':=0) (I':=.slice none 0 0) (N':=.slice none 0 0) (HR2.out);have hbl:=zqbi (R:=w.heap.size + 1) (k':=0) (n':=0) (I':=.slice none 0 0) (N':=.slice none 0 0) HB2.out (by omega)
  unfold set4 at hs4 hbl;generalize (((w2.setCell ⟨w.heap.size + 1,0,none⟩ (.int .u64 0)).setCell ⟨w.heap.size + 1,1,none⟩ (.int .i64 0)).setCell ⟨w.heap.size + 1,2,none⟩ (.slice none 0 0)).setCell ⟨w.heap.size + 1,3,none⟩ (.slice none 0 0) = W4 at *;obtain ⟨⟨s0,s1,s2,s3⟩,-⟩:=zqad hs4;exact bodyPost_ret (v:=.tuple #[CeV ce0 (.slice none 0 0) (.slice none 0 0),.int .i64 0,.int .i64 ce]) (by simp [results,Tryz.results9,go_sem,ce0,s0,s1,s2,s3]) rfl (HNo.out _ _ (by exact ⟨rfl,hE0⟩) hbl)
end Go.Proofs.YtafmghloohhaeaaGreatDoor
