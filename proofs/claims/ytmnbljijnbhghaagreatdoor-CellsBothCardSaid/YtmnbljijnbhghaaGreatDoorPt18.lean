/- Contracts that the law leans on: Aggk. -/
import Derived.Test.YtmnbljijnbhghaaGreatDoorPt02
import Derived.Test.YtmnbljijnbhghaaGreatDoorPt15
import Derived.Test.YtmnbljijnbhghaaGreatDoorPt16
import Derived.Test.YtmnbljijnbhghaaGreatDoorPt17
namespace Go.Proofs.YtmnbljijnbhghaaGreatDoor
set_option maxRecDepth 100000
open Go.RowKit
set_option linter.unusedVariables false
def JRP (x y:Re) (w:World) (e:Ending) (w':World):Prop :=
 ∃ (z:Re) (q:Value) (E:Nat),e = .returned (.tuple #[reV z q,.int .i64 E]) ∧ Below w.heap.size w w' ∧ (rErr x y = E ∧ (E = 0 → JR x y z)) ∧
  w'.ownsRow w.heap.size 5 1 q z.sum.length (z.sum.map (Value.int .u8))
theorem zqkg (w:World) (B:Nat):w.ownsRow B 5 1 (.slice none 0 0) re0.sum.length (re0.sum.map (Value.int .u8)):=⟨by simp [re0],.inl ⟨rfl,rfl⟩⟩
theorem zqgr {l:List Int} {w w':World} {e:Ending} (h:ReadP5 l w e w'):∃ p,e = .returned (.tuple #[.pointer p,.int .i64 (errN l)]) ∧ Below w.heap.size w w' ∧ (errN l = 0 → ∃ N,p = some ⟨N,0,none⟩ ∧ w.heap.size ≤ N ∧ SumAt w' N (readF l) (readT l)):=by
 rcases h with ⟨h0,rfl,hb⟩ | ⟨h0,N,rfl,hN,hs,hb⟩
 ·exact ⟨none,rfl,hb,fun q => absurd q h0⟩
 ·exact ⟨some ⟨N,0,none⟩,by rw [h0]; rfl,hb,fun _ => ⟨N,rfl,hN,hs⟩⟩
theorem low4 {w w':World} {B P Q:Nat} {i j k l:Nat} (hb:Below B w w') (hP:P < B) (hQ:Q < B) {v0 v1 v2 v3:Value}
  (h:w.cell? ⟨P,i,none⟩ = some v0 ∧ w.cell? ⟨Q,j,none⟩ = some v1 ∧ w.cell? ⟨P,k,none⟩ = some v2 ∧ w.cell? ⟨Q,l,none⟩ = some v3) :
  w'.cell? ⟨P,i,none⟩ = some v0 ∧ w'.cell? ⟨Q,j,none⟩ = some v1 ∧ w'.cell? ⟨P,k,none⟩ = some v2 ∧ w'.cell? ⟨Q,l,none⟩ = some v3:=by
 obtain ⟨h0,h1,h2,h3⟩:=h;exact ⟨zqbc hb hP h0,zqbc hb hQ h1,zqbc hb hP h2,zqbc hb hQ h3⟩
abbrev set3 (W:World) (R:Nat) (a b c:Value):World:=((W.setCell ⟨R,0,none⟩ a).setCell ⟨R,1,none⟩ b).setCell ⟨R,2,none⟩ c
theorem zqec {W:World} {R:Nat} {a b c a' b' c':Value} {T:TypeId} (h:W.heap[R]? = some (.cells #[a',b',c'] T (0,0))):(set3 W R a b c).heap[R]? = some (.cells #[a,b,c] T (0,0)):=by
 simp [World.setCell,Array.getElem?_modify,h]
theorem zqb2 {B R:Nat} {w W:World} {a b c:Value} (h:Below B w W) (hR:B ≤ R):Below B w (set3 W R a b c):=((h.setCell hR _).setCell hR _).setCell hR _
theorem zqxc {x y:Re} (h:¬ (errN x.sum = 0 ∧ errN y.sum = 0)):rErr x y = 13:=by unfold rErr; rw [if_neg h]
theorem zqxd {x y:Re} (h:errN x.sum = 0 ∧ errN y.sum = 0) (h2:Fits (readT x.sum + readT y.sum)):rErr x y = 0:=by unfold rErr; rw [if_pos h]; exact if_pos h2
theorem zque {x y:Re} (h:errN x.sum = 0 ∧ errN y.sum = 0) (h2:¬ Fits (readT x.sum + readT y.sum)):rErr x y = 10:=by unfold rErr; rw [if_pos h]; exact if_neg h2
theorem zqii {W:World} {R B E sz n:Nat} {a b c a' b' c' v:Value} {T:TypeId} {xs:List Value} (h:W.heap[R]? = some (.cells #[a',b',c'] T (0,0))) (hT:T ≠ E) (ho:W.ownsRow B E sz v n xs):(set3 W R a b c).ownsRow B E sz v n xs:=by
 have e1:(W.setCell ⟨R,0,none⟩ a).heap[R]? = some (.cells #[a,b',c'] T (0,0)):=by simp [World.setCell,Array.getElem?_modify,h]
 have e2:((W.setCell ⟨R,0,none⟩ a).setCell ⟨R,1,none⟩ b).heap[R]? = some (.cells #[a,b,c'] T (0,0)):=by simp [World.setCell,Array.getElem?_modify,h]
 exact zqah (zqah (zqah ho h hT) e1 hT) e2 hT
set_option maxHeartbeats 4000000 in
theorem zqtd (w:World) (x1 x2 y1 y2:Nat) (lx ly:List Int) (p p':Option Addr) (c c':Nat) (hq:Ints .u8 w (.slice p lx.length c) lx) (hr:Ints .u8 w (.slice p' ly.length c') ly) (hx:ReW ⟨lx,x1,x2⟩) (hy:ReW ⟨ly,y1,y2⟩) (hT:Tab w) :
  Calls Tryz.prog 112 #[.agg #[.slice p lx.length c,.float .f64 x1,.float .f64 x2],.agg #[.slice p' ly.length c',.float .f64 y1,.float .f64 y2]] w (JRP ⟨lx,x1,x2⟩ ⟨ly,y1,y2⟩ w):=by
 have HP1:=zh (fun w1 (h:Below w.heap.size w w1) => zqgn p lx.length c lx w1 (hq.below h) hx.sum)
 have HP2:=zh (fun w1 (h:Below w.heap.size w w1) => zqgn p' ly.length c' ly w1 (hr.below h) hy.sum)
 have HLs:=zh (fun w1 => zqqm x1 y1 w1 hx.mn hy.mn)
 have HMs:=zh (fun w1 => zqsz x2 y2 w1 hx.mx hy.mx)
 have HE1:=zh (zqxc (x:=⟨lx,x1,x2⟩) (y:=⟨ly,y1,y2⟩));have HE2:=zh (zqxd (x:=⟨lx,x1,x2⟩) (y:=⟨ly,y1,y2⟩));have HE3:=zh (zque (x:=⟨lx,x1,x2⟩) (y:=⟨ly,y1,y2⟩));have HTb:=zh (fun w1 (h:Below w.heap.size w w1) => hT.call h)
 have HJ:=zh (fun z (e1:errN lx = 0) (e2:errN ly = 0) (ft:Fits (readT lx + readT ly)) (he:IsEnc (readF lx ||| readF ly) (readT lx + readT ly) z) => (⟨e1,e2,ft,he,rfl,rfl⟩:JR ⟨lx,x1,x2⟩ ⟨ly,y1,y2⟩ ⟨z,if lessB y1 x1 then y1 else x1,if lessB x2 y2 then y2 else x2⟩))
 unfold JRP;obtain ⟨b1,b2,b3,b4⟩:=zqf8 (w:=w) (T:=90) (cs:=#[.slice p lx.length c,.float .f64 x1,.float .f64 x2]) (ds:=#[.slice p' ly.length c',.float .f64 y1,.float .f64 y2]) (es:=#[.slice none 0 0,.float .f64 0,.float .f64 0]);have HX:=zh b1;have HY:=zh b2;have HZ:=zh b3;have HB:=zh b4;have hsf:=fun (w:World) (a:Addr) (m:Mode) (k:Nat) => zqa6 (P:=Tryz.prog) (w:=w) (a:=a) (m:=m) k
 generalize rErr ⟨lx,x1,x2⟩ ⟨ly,y1,y2⟩ = re at *;generalize JR ⟨lx,x1,x2⟩ ⟨ly,y1,y2⟩ = JJ at *;generalize (if lessB y1 x1 = true then y1 else x1) = mn at *
 generalize (if lessB x2 y2 = true then y2 else x2) = mx at *
 clear hx hy hq hr b1 b2 b3 b4 hT;go_enter Tryz.func112,Tryz.ntmps112;go_upto_region 1 with fail;generalize ((w.alloc (.cells #[.slice p lx.length c,.float .f64 x1,.float .f64 x2] 90)).alloc (.cells #[.slice p' ly.length c',.float .f64 y1,.float .f64 y2] 90)).alloc (.cells #[.slice none 0 0,.float .f64 0,.float .f64 0] 90) = W at *;obtain ⟨k0,k1,k2⟩:=row3 HX.out;obtain ⟨l0,l1,l2⟩:=row3 HY.out;have hlt:w.heap.size + 1 + 1 < W.heap.size:=(Array.getElem?_eq_some_iff.1 HZ.out).1;go_wp2_with fail;refine (HP1.out _ HB.out).mono ?_; rintro e w1 hr;obtain ⟨pp,rfl,hb1,hs1⟩:=zqgr hr;have HB1:=zh (zqaa HB.out hb1);have HW1:=zh hb1;have HS1:=zh hs1;have l0:=zqbc hb1 (by simp; omega) l0
 clear hr hb1 hs1 k0 HP1;go_wp2_with fail;refine (HP2.out _ HB1.out).mono ?_; rintro e w2 hr;obtain ⟨pp',rfl,hb2,hs2⟩:=zqgr hr;have HB2:=zh (zqaa HB1.out hb2);have HW2:=zh (zqaa HW1.out hb2);have HS12:=zh (And.intro (fun h => (HS1.out h).imp fun N q => (⟨q.1,q.2.1,SumAt.below q.2.2 hb2,SumAt.lt q.2.2⟩:pp = some ⟨N,0,none⟩ ∧ W.heap.size ≤ N ∧ SumAt w2 N (readF lx) (readT lx) ∧ N < w1.heap.size)) hs2)
 have hz2:=(HW2.out.block _ hlt).trans HZ.out;have HZ2:=zh hz2;have zf:=zqav hz2;obtain ⟨e0,e1,e2⟩:=row3 hz2;clear hr hb2 hs2 l0 HP2 HS1 hz2
 by_cases he:errN lx = 0 ∧ errN ly = 0
 ·obtain ⟨N,rfl,hN,hsN,hN1⟩:=HS12.out.1 he.1;obtain ⟨M,rfl,hM,hsM⟩:=HS12.out.2 he.2;have hne1:((errN lx:Int) != 0) = false:=by rw [he.1]; rfl
  have hne2:((errN ly:Int) != 0) = false:=by rw [he.2]; rfl
  have HE:=zh he
  by_cases hft:Fits (readT lx + readT ly)
  ·have HO:=zh (zqlg w2 N M _ _ _ _ hsN hsM hft);have hre:=HE2.out he hft;subst hre;have HJz:=zh (fun z q => HJ.out z he.1 he.2 hft q)
   have hN2:N < w2.heap.size:=hsN.lt;have HBS:=zh HB.out.size;unfold JoinP at HO;clear he hsN hsM hft HE HJ HE1 HE2 HE3 zf e0 e1 e2;go_wp2_with fail;refine HO.out.mono ?_; rintro e w3 ⟨rfl,hs3,hg3⟩;have HW3:=zh (HW2.out.trans (zqi9 hg3 hN hN2));obtain ⟨l,hl⟩:=hs3.enc;have HBy:=zh (fun w4 (h:Below w3.heap.size w3 w4) (ht:Below w.heap.size w w4) => zqjl w4 N _ _ l (hs3.below h) hl (HTb.out _ ht))
   have HJl:=zh (HJz.out l hl);have HW03:=zh (HB.out.trans (HW3.out.mono HB.out.size));have hz3:=(HW3.out.block _ hlt).trans HZ.out;have HZ3:=zh hz3;have hlt3:=Nat.lt_of_lt_of_le hlt HW3.out.size;obtain ⟨-,k1,k2⟩:=row3 ((HW3.out.block _ (Nat.lt_of_le_of_lt (by omega) hlt)).trans HX.out)
   obtain ⟨-,l1,l2⟩:=row3 ((HW3.out.block _ (Nat.lt_of_le_of_lt (by omega) hlt)).trans HY.out)
   clear hz3 hs3 hg3 hl HO hne1 hne2 HJz;unfold BytesP5 at HBy;go_upto_region 7 with fail;have hk:w3.drew.cell? ⟨w.heap.size,1,none⟩ = some (.float .f64 x1) ∧ w3.drew.cell? ⟨w.heap.size + 1,1,none⟩ = some (.float .f64 y1) ∧ w3.drew.cell? ⟨w.heap.size,2,none⟩ = some (.float .f64 x2) ∧ w3.drew.cell? ⟨w.heap.size + 1,2,none⟩ = some (.float .f64 y2):=⟨k1,l1,k2,l2⟩;have hBw:Below w3.heap.size w3 w3.drew:=(Below.refl _ _).drew;clear k1 k2 l1 l2;go_region_held3 (fun w' => w'.cell? ⟨w.heap.size,1,none⟩ = some (.float .f64 x1) ∧ w'.cell? ⟨w.heap.size + 1,1,none⟩ = some (.float .f64 y1) ∧ w'.cell? ⟨w.heap.size,2,none⟩ = some (.float .f64 x2) ∧ w'.cell? ⟨w.heap.size + 1,2,none⟩ = some (.float .f64 y2))
    (first | (with_reducible exact hk) | exact low4 (zqb2 (B:=w.heap.size + 1 + 1) (Below.refl _ _) (Nat.le_refl _)) (by omega) (by omega) hk)
    (first
     | (go_at_call 147; refine (HBy.out _ hBw (zqaa HW03.out hBw)).mono ?_; rintro e w4 ⟨⟨u,rfl,g1⟩,g2⟩; have hBw:=zqaa hBw g2; have hk:=low4 g2 (Nat.lt_of_lt_of_le (Nat.lt_of_le_of_lt (by omega) hlt3) (Nat.le_refl _)) (Nat.lt_of_lt_of_le (Nat.lt_of_le_of_lt (by omega) hlt3) (Nat.le_refl _)) hk; have hBz:=(hBw.block _ hlt3).trans HZ3.out; have zf:=zqav hBz; obtain ⟨e0,e1,e2⟩:=row3 hBz; have HO2:=zh g1; obtain ⟨pq,cq,rfl⟩:=zqae g1; have HB6:=zh (zqaa HW03.out hBw); clear g1 g2)
     | (go_at_call 154; refine (HLs.out _).mono ?_; rintro e w5 ⟨rfl,rfl⟩)
     | (go_at_call 155; refine (HMs.out _).mono ?_; rintro e w5 ⟨rfl,rfl⟩))
   all_goals
    clear hk zf e0 e1 e2;have HB9:=zqb2 (R:=w.heap.size + 1 + 1) (a:=.slice pq l.length cq) (b:=.float .f64 mn) (c:=.float .f64 mx) HB6.out (by omega)
    have HZ9:=zqec (a:=.slice pq l.length cq) (b:=.float .f64 mn) (c:=.float .f64 mx) hBz;have HO9:=zqii (a:=.slice pq l.length cq) (b:=.float .f64 mn) (c:=.float .f64 mx) hBz (by decide) (zqak HO2.out (B':=w.heap.size) (by have:=HW03.out.size; simp; omega))
    go_wp2_with fail;unfold set3 at HB9 HZ9 HO9;obtain ⟨r0,r1,r2⟩:=row3 HZ9;exact bodyPost_ret (v:=.tuple #[reV ⟨l,mn,mx⟩ (.slice pq l.length cq),.int .i64 0]) (by simp [results,Tryz.results112,go_sem,r0,r1,r2]) rfl ⟨_,_,0,rfl,HB9,⟨rfl,fun _ => HJl.out⟩,HO9⟩
  ·have HO:=zh (zqrc w2 N M _ _ _ _ hsN hsM hft);have hre:=HE3.out he hft;subst hre;have HB9:=zh (fun w3 (hb:Below w2.heap.size w2 w3) => zqb2 (R:=w.heap.size + 1 + 1) (a:=.slice none 0 0) (b:=.float .f64 0) (c:=.float .f64 0) (zqaa HB2.out hb) (by omega))
   have HZ9:=zh (fun w3 (hb:Below w2.heap.size w2 w3) => zqec (a:=.slice none 0 0) (b:=.float .f64 0) (c:=.float .f64 0) ((hb.block _ (Nat.lt_of_lt_of_le hlt HW2.out.size)).trans HZ2.out))
   have HF9:=zh (fun w3 (hb:Below w2.heap.size w2 w3) => zqav ((hb.block _ (Nat.lt_of_lt_of_le hlt HW2.out.size)).trans HZ2.out))
   clear he hsN hsM hft HE HJ HE1 HE2 HE3 HLs HMs HTb zf e0 e1 e2;go_wp2_with fail;refine HO.out.mono ?_; rintro e w3 ⟨rfl,hb3⟩;have zf:=HF9.out _ hb3;obtain ⟨e0,e1,e2⟩:=row3 ((hb3.block _ (Nat.lt_of_lt_of_le hlt HW2.out.size)).trans HZ2.out);have HB9:=zh (HB9.out _ hb3);have HZ9:=zh (HZ9.out _ hb3);go_wp2_with fail;unfold set3 at HB9 HZ9;obtain ⟨r0,r1,r2⟩:=row3 HZ9.out;exact bodyPost_ret (v:=.tuple #[reV re0 (.slice none 0 0),.int .i64 10]) (by simp [results,Tryz.results112,go_sem,re0,r0,r1,r2]) rfl ⟨re0,.slice none 0 0,_,rfl,HB9.out,⟨rfl,fun q => by cases q⟩,zqkg _ _⟩
 ·have hre:=HE1.out he;subst hre;have HB9:=zh (zqb2 (R:=w.heap.size + 1 + 1) (a:=.slice none 0 0) (b:=.float .f64 0) (c:=.float .f64 0) HB2.out (by omega))
  have HZ9:=zh (zqec (a:=.slice none 0 0) (b:=.float .f64 0) (c:=.float .f64 0) HZ2.out);have hx:errN lx ≠ 0 ∨ (errN lx = 0 ∧ errN ly ≠ 0):=by omega
  clear HS12 HE1 HE2 HE3 HJ he HLs HMs HTb;generalize errN lx = E1 at *;generalize errN ly = E2 at *;rcases hx with hx | ⟨rfl,hx⟩
  ·have hne1:((E1:Int) != 0) = true:=by simp [hx]
   clear hx;go_wp2_with fail;unfold set3 at HB9 HZ9;obtain ⟨r0,r1,r2⟩:=row3 HZ9.out;exact bodyPost_ret (v:=.tuple #[reV re0 (.slice none 0 0),.int .i64 13]) (by simp [results,Tryz.results112,go_sem,re0,r0,r1,r2]) rfl ⟨re0,.slice none 0 0,_,rfl,HB9.out,⟨rfl,fun q => by cases q⟩,zqkg _ _⟩
  ·have hne1:((E2:Int) != 0) = true:=by simp [hx]
   clear hx;go_wp2_with fail;unfold set3 at HB9 HZ9;obtain ⟨r0,r1,r2⟩:=row3 HZ9.out;exact bodyPost_ret (v:=.tuple #[reV re0 (.slice none 0 0),.int .i64 13]) (by simp [results,Tryz.results112,go_sem,re0,r0,r1,r2]) rfl ⟨re0,.slice none 0 0,_,rfl,HB9.out,⟨rfl,fun q => by cases q⟩,zqkg _ _⟩
theorem zqtc (w:World) (x y:Re) (q r:Value) (hq:Ints .u8 w q x.sum) (hr:Ints .u8 w r y.sum) (hx:ReW x) (hy:ReW y) (hT:Tab w) :
  Calls Tryz.prog 112 #[reV x q,reV y r] w (JRP x y w):=by
 cases x
 cases y
 have hq0:=hq;have hr0:=hr;obtain ⟨p,c,rfl,-,-⟩:=hq;obtain ⟨p',c',rfl,-,-⟩:=hr;exact zqtd w _ _ _ _ _ _ p p' c c' hq0 hr0 hx hy hT
end Go.Proofs.YtmnbljijnbhghaaGreatDoor
