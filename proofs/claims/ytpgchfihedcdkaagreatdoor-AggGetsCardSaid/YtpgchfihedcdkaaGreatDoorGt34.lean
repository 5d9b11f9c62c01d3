/- Contracts that the law leans on: Aggm Aggn Aggq Agoe Agof. -/
import Derived.Deep.CutRange
import Derived.Test.YtpgchfihedcdkaaGreatDoorGt02
import Derived.Test.YtpgchfihedcdkaaGreatDoorGt10
import Derived.Test.YtpgchfihedcdkaaGreatDoorGt18
import Derived.Test.YtpgchfihedcdkaaGreatDoorGt21
import Derived.Test.YtpgchfihedcdkaaGreatDoorGt28
import Derived.Test.YtpgchfihedcdkaaGreatDoorGt31
import Derived.Test.YtpgchfihedcdkaaGreatDoorGt32
import Derived.Test.YtpgchfihedcdkaaGreatDoorGt33
namespace Go.Proofs.YtpgchfihedcdkaaGreatDoor
set_option maxRecDepth 100000
open Go.RowKit
set_option linter.unusedVariables false
theorem JRP.raw {x y:Re} {w w':World} {e:Ending} (h:JRP x y w e w'):∃ (lz:List Int) (z1 z2:Nat) (p:Option Addr) (c E:Nat),e = .returned (.tuple #[.agg #[.slice p lz.length c,.float .f64 z1,.float .f64 z2],.int .i64 E]) ∧ Below w.heap.size w w' ∧ (rErr x y = E ∧ (E = 0 → JR x y ⟨lz,z1,z2⟩)) ∧
  w'.ownsRow w.heap.size 5 1 (.slice p lz.length c) lz.length (lz.map (Value.int .u8)):=by
 obtain ⟨⟨lz,z1,z2⟩,q,E,rfl,h1,h2,h3⟩:=h;obtain ⟨p,c,rfl⟩:=zqai h3;exact ⟨lz,z1,z2,p,c,E,rfl,h1,h2,h3⟩
def EachR (l m:List Re) (w:World) (e:Ending) (w':World):Prop :=
 Below w.heap.size w w' ∧ ((∃ k,k < l.length ∧ (∀ j,j < k → rErr (rg l j) (rg m j) = 0) ∧ rErr (rg l k) (rg m k) ≠ 0 ∧ e = .returned (.tuple #[.slice none 0 0,.int .i64 (rErr (rg l k) (rg m k))])) ∨
  ∃ v ps,e = .returned (.tuple #[v,.int .i64 0]) ∧ RsOwn w' w.heap.size v ps ∧ ps.length = l.length ∧ ∀ k,k < l.length → rErr (rg l k) (rg m k) = 0 ∧ JR (rg l k) (rg m k) (rg (ps.map Prod.snd) k))
set_option maxHeartbeats 8000000 in
theorem zqse (w:World) (u v:Value) (l m:List Re) (hu:Reals w u l) (hv:Reals w v m) (hl:l.length = m.length) (h10:l.length ≤ 10) (hw:∀ x ∈ l,ReW x) (hw':∀ x ∈ m,ReW x) (hT:Tab w) :
  Calls Tryz.prog 91 #[u,v,.func (.func 92) #[] #[]] w (EachR l m w):=by
 have HU:=zh hu;have HV:=zh hv;have HJ:=zh (fun k (hk:k < l.length) w1 (hb:Below w.heap.size w w1) q r (hq:Ints .u8 w1 q (rg l k).sum) (hr:Ints .u8 w1 r (rg m k).sum) => zqve w1 (rg l k) (rg m k) q r hq hr (by rw [zqa3 hk]; exact hw _ (List.getElem_mem _)) (by rw [zqa3 (show k < m.length by omega)]; exact hw' _ (List.getElem_mem _)) (hT.call hb))
 have HL:=zh (And.intro hl h10);obtain ⟨i0,hi,hz0,hz1,hz2⟩:=info_parts Tryz.infoReal;unfold EachR;obtain ⟨a,c,rfl,-⟩:=hu;obtain ⟨a',c',rfl,-⟩:=hv;clear hl h10 hw hw' hT;go_enter Tryz.func91,Tryz.ntmps91;go_wp2_with fail;go_loopw [8,15] (fun lv iv wr => ∃ (k:Nat) (ps:List (Value × Re)),k ≤ l.length ∧ iv = .int .i64 k ∧ Hid (ps.length = k ∧ Below w.heap.size w wr ∧ RsOwn wr w.heap.size lv ps ∧ ∀ j,j < k → rErr (rg l j) (rg m j) = 0 ∧ JR (rg l j) (rg m j) (rg (ps.map Prod.snd) j))) (fun _ iv _ => l.length - (intOf iv).toNat)
 case atStart => exact ⟨0,[],Nat.zero_le _,rfl,zh ⟨rfl,Below.refl _ _,RsOwn.nil _ _,fun j hj => by omega⟩⟩
 case round =>
  obtain ⟨k,ps,hk,rfl,HS⟩:=hrel;have hmi:l.length ≤ 9223372036854775807:=by have:=HL.out.2; omega
  by_cases hlk:k < l.length
  ·have hlk':(k:Int) < (l.length:Int):=by omega
   have hkb0:k < m.length:=by have:=HL.out.1; omega
   have hkb:(k:Int) < (m.length:Int):=by omega
   obtain ⟨ba,oa,qa,rfl,hqa⟩:=(HU.out.below HS.out.2.1).at hlk;obtain ⟨bb,ob,qb,rfl,hqb⟩:=(HV.out.below HS.out.2.1).at hkb0;have hle:Hid (k + 1 ≤ l.length):=zh (by omega)
   have HJk:=zh (HJ.out k hlk);have HGd:=zh (fun j (hj:j < k + 1) (ps':List (Value × Re)) (hp:ps'.length = k) (p:Value × Re) (hp2:∀ j,j < k → rErr (rg l j) (rg m j) = 0 ∧ JR (rg l j) (rg m j) (rg (ps'.map Prod.snd) j)) (h:rErr (rg l k) (rg m k) = 0 ∧ JR (rg l k) (rg m k) p.2) => show rErr (rg l j) (rg m j) = 0 ∧ JR (rg l j) (rg m j) (rg ((ps' ++ [p]).map Prod.snd) j) from
    if e:j = k then by
     subst e;have e2:rg ((ps' ++ [p]).map Prod.snd) j = p.2:=by rw [zqa3 (by simp [hp])]; simp [hp]
     rw [e2]; exact h
    else by
     have e2:rg ((ps' ++ [p]).map Prod.snd) j = rg (ps'.map Prod.snd) j:=by rw [zqa3 (by simp [hp]; omega),zqa3 (by simp [hp]; omega)]; simp [List.getElem_append_left,hp,show j < k by omega]
     rw [e2]; exact hp2 j (by omega))
   obtain ⟨f0,f1,f2,f5⟩:=hqa;obtain ⟨g0,g1,g2,g5⟩:=hqb;have HF5:=zh (And.intro f5 g5);have HJz:=zh (fun z => show JR (rg l k) (rg m k) z → JR (rg l k) (rg m k) z from id)
   obtain ⟨xx,hxx⟩:∃ xx,rg l k = xx:=⟨_,rfl⟩
   obtain ⟨yy,hyy⟩:∃ yy,rg m k = yy:=⟨_,rfl⟩
   have HXY:=zh (And.intro hxx hyy);rw [hxx] at f1 f2 HJk HF5;rw [hyy] at g1 g2 HJk HF5;clear hxx hyy HJz f5 g5;obtain ⟨lx,x1,x2⟩:=xx;obtain ⟨ly,y1,y2⟩:=yy;have HF6:=zh HF5.out;obtain ⟨⟨pa,pac,rfl,-,-⟩,pb,pbc,rfl,-,-⟩:=HF5.out
   dsimp only at f1 f2 g1 g2 HF6 HJk
   clear HF5;have hsf:=fun (w:World) (a:Addr) (m:Mode) (k:Nat) => zqbf (P:=Tryz.prog) (w:=w) (a:=a) (m:=m) k
   go_upto_region 5 with fail;have hHT0:=zqab wr (.cells #[.slice pa lx.length pac,.float .f64 x1,.float .f64 x2] 74);obtain ⟨hx0,hx1,hx2⟩:=row3 (heap_alloc_new wr (.cells #[.slice pa lx.length pac,.float .f64 x1,.float .f64 x2] 74));have hy0:=cell_later hHT0 g0;have hy1:=cell_later hHT0 g1;have hy2:=cell_later hHT0 g2;have hblt:bb < wr.heap.size:=World.block_lt_of_cell? _ _ g0;have HT0:=zh hHT0;have HB0:=zh (HS.out.2.1.trans (HT0.out.mono HS.out.2.1.size));have hk0:(wr.alloc (.cells #[.slice pa lx.length pac,.float .f64 x1,.float .f64 x2] 74)).cell? ⟨wr.heap.size,0,none⟩ = some (.slice pa lx.length pac) ∧ (wr.alloc (.cells #[.slice pa lx.length pac,.float .f64 x1,.float .f64 x2] 74)).cell? ⟨wr.heap.size,1,none⟩ = some (.float .f64 x1) ∧ (wr.alloc (.cells #[.slice pa lx.length pac,.float .f64 x1,.float .f64 x2] 74)).cell? ⟨wr.heap.size,2,none⟩ = some (.float .f64 x2) ∧ (wr.alloc (.cells #[.slice pa lx.length pac,.float .f64 x1,.float .f64 x2] 74)).cell? ⟨bb,ob + k * 3,none⟩ = some (.slice pb ly.length pbc) ∧ (wr.alloc (.cells #[.slice pa lx.length pac,.float .f64 x1,.float .f64 x2] 74)).cell? ⟨bb,ob + k * 3 + 1,none⟩ = some (.float .f64 y1) ∧ (wr.alloc (.cells #[.slice pa lx.length pac,.float .f64 x1,.float .f64 x2] 74)).cell? ⟨bb,ob + k * 3 + 2,none⟩ = some (.float .f64 y2):=⟨hx0,hx1,hx2,hy0,hy1,hy2⟩;clear hHT0 hx0 hx1 hx2 hy0 hy1 hy2 f0 g0 f1 g1 f2 g2;have HWs:Hid (wr.heap.size + 1 = (wr.alloc (.cells #[.slice pa lx.length pac,.float .f64 x1,.float .f64 x2] 74)).heap.size):=zh (by simp)
   have HIn:=zh (And.intro (HF6.out.1.below HT0.out) (HF6.out.2.below HT0.out));generalize wr.alloc (.cells #[.slice pa lx.length pac,.float .f64 x1,.float .f64 x2] 74) = W at *;have HJz:=zh (fun w1 (hb:Below W.heap.size W w1) => HJk.out w1 (zqaa HB0.out hb) _ _ (HIn.out.1.below hb) (HIn.out.2.below hb))
   clear HJk HJ;go_cut [11,12] from 16 to 37 (fun v11 v12 wx => ∃ (M E:Nat) (lz:List Int) (z1 z2:Nat) (pq:Option Addr) (cq:Nat),v11 = .pointer (some ⟨M,0,none⟩) ∧ v12 = .int .i64 E ∧ Hid (MadeAt14 74 W M #[.slice pq lz.length cq,.float .f64 z1,.float .f64 z2] wx ∧ (rErr (rg l k) (rg m k) = E ∧ (E = 0 → JR (rg l k) (rg m k) ⟨lz,z1,z2⟩)) ∧ wx.ownsRow W.heap.size 5 1 (.slice pq lz.length cq) lz.length (lz.map (Value.int .u8))))
   case first =>
    have hk:W.drew.cell? ⟨wr.heap.size,0,none⟩ = some (.slice pa lx.length pac) ∧ W.drew.cell? ⟨wr.heap.size,1,none⟩ = some (.float .f64 x1) ∧ W.drew.cell? ⟨wr.heap.size,2,none⟩ = some (.float .f64 x2) ∧ W.drew.cell? ⟨bb,ob + k * 3,none⟩ = some (.slice pb ly.length pbc) ∧ W.drew.cell? ⟨bb,ob + k * 3 + 1,none⟩ = some (.float .f64 y1) ∧ W.drew.cell? ⟨bb,ob + k * 3 + 2,none⟩ = some (.float .f64 y2):=hk0;go_region_held3 (fun w' => w'.cell? ⟨wr.heap.size,0,none⟩ = some (.slice pa lx.length pac) ∧ w'.cell? ⟨wr.heap.size,1,none⟩ = some (.float .f64 x1) ∧ w'.cell? ⟨wr.heap.size,2,none⟩ = some (.float .f64 x2) ∧ w'.cell? ⟨bb,ob + k * 3,none⟩ = some (.slice pb ly.length pbc) ∧ w'.cell? ⟨bb,ob + k * 3 + 1,none⟩ = some (.float .f64 y1) ∧ w'.cell? ⟨bb,ob + k * 3 + 2,none⟩ = some (.float .f64 y2)) (first | (with_reducible exact hk) | exact hold6 (by repeat' first | exact Below.refl _ _ | refine Below.drew ?_ | refine Below.alloc ?_ (by first | exact Nat.le_refl _ | exact hBw.size | (simp; done) | (simp; omega) | (have:=hBw.size; simp; omega)) _ | refine Below.setCell ?_ (by first | exact Nat.le_refl _ | (simp; done) | (simp; omega)) _ | exact hBw) hk0)
     (first
      | (go_at_call 92; refine (HJz.out _ (by (repeat' first | exact Below.refl _ _ | refine Below.drew ?_ | refine Below.alloc ?_ (by first | exact Nat.le_refl _ | (simp; done) | (simp; omega)) _); done)).mono ?_; rintro e w2 hr; obtain ⟨lz,z1,z2,pq,cq,E,rfl,hb2,hj,ho⟩:=JRP.raw hr; (first | (have hBw:Below W.heap.size W w2:=zqed hb2) | (obtain ⟨hMz,hBw⟩:=zqon (W:=W) (w2:=w2) (cs:=#[.slice none 0 0,.float .f64 0,.float .f64 0]) (T:=74) hb2; have zf:=zqbn hMz; obtain ⟨e0,e1,e2⟩:=row3 hMz) | (obtain ⟨hMz,hBw⟩:=zqoo (W:=W) (w2:=w2) (cs:=#[.slice none 0 0,.float .f64 0,.float .f64 0]) (T:=74) hb2; have zf:=zqbn hMz; obtain ⟨e0,e1,e2⟩:=row3 hMz)); have hk:=hold6 hBw hk0; have HJr:=zh hj; rw [← HXY.out.1,← HXY.out.2] at HJr; have HO2:=zh (zqax ho (B':=W.heap.size) (by simp)); clear hr hb2 hj ho))
    all_goals
     go_wp2_with fail;go_meet
     first
      | (have h1:=zqvk (a:=.slice pq lz.length cq) (b:=.float .f64 z1) (c:=.float .f64 z2) hMz hBw; have h2:=zqjq (a:=.slice pq lz.length cq) (b:=.float .f64 z1) (c:=.float .f64 z2) hMz (by decide) HO2.out; exact ⟨W.heap.size,E,lz,z1,z2,pq,cq,rfl,rfl,zh ⟨h1,HJr.out,h2⟩⟩)
      | (have h1:=zqkd (T:=74) (cs:=#[.slice pq lz.length cq,.float .f64 z1,.float .f64 z2]) hBw; have h2:=zqay HO2.out (zqab w2 (.cells #[.slice pq lz.length cq,.float .f64 z1,.float .f64 z2] 74)); exact ⟨w2.heap.size,E,lz,z1,z2,pq,cq,rfl,rfl,zh ⟨h1,HJr.out,h2⟩⟩)
   case rest =>
    obtain ⟨M,E,lz,z1,z2,pq,cq,rfl,rfl,hC⟩:=hcut;obtain ⟨e0,e1,e2⟩:=row3 hC.out.1.1;have HBc:=zh (HB0.out.trans (hC.out.1.2.1.mono HB0.out.size));have HWs:=zh (HS.out.2.2.1.below (zqaa HT0.out hC.out.1.2.1));have HOq:=zh (zqax hC.out.2.2 (B':=w.heap.size) HB0.out.size);have HPs:=zh HS.out.1;have HJl:=zh HS.out.2.2.2;have HRs:=zh hC.out.2.1;clear hC hk0 HJz HXY HIn HF6 HT0;have hre:=HRs.out.1;have HRt:=zh HRs.out
    by_cases hE:E = 0
    rotate_left;have hne:((E:Int) != 0) = true:=by simp [hE]
    rotate_left;rotate_left
    ·have HR:=zh HRs.out;clear e0 e1 e2 HRs;go_wp2_with fail;go_ret2;exact ⟨HBc.out,.inl ⟨k,hlk,fun j hj => (HJl.out j hj).1,by rw [hre]; exact hE,by rw [hre]; rfl⟩⟩
    ·obtain ⟨pv,cv,rfl⟩:=zqai HWs.out.1;clear HRs;go_wp2_with (at_builtin; refine wpList_append_own _ rfl _ _ 30 rfl w.heap.size 74 i0 (.agg #[.slice none 0 0,.float .f64 0,.float .f64 0]) 3 40 Tryz.underlying30 hi hz0 hz1 hz2 zqd9 (by decide) _ _ (cellsR ps) rfl (zqay HWs.out.1 (zqab _ _)) ⟨wc.heap.size,0,none⟩ 1 1 [.slice pq lz.length cq,.float .f64 z1,.float .f64 z2] rfl rfl (World.news_of_block (heap_alloc_new wc _)) (by intro u hu; simp at hu; rcases hu with rfl | rfl | rfl <;> rfl) (by have:=HPs.out; have:=HL.out.2; unfold maxLen; omega) (by have:=HPs.out; have:=HL.out.2; omega) (by have:=HBc.out.size; simp; omega) ?_; intro v' w9 hown hgrow hiff; clear hiff; have HZ:=zh (RsOwn.push (x:=⟨lz,z1,z2⟩) (HWs.out.below (zqab _ _)) (zqay HOq.out (zqab _ _)) hown hgrow); have HB9:=zh (Below.grown (zqaa HBc.out (zqab _ _)) hgrow (by have:=HBc.out.size; simp; omega) (fun gg hg => (World.ownsRow.lt HWs.out.1 gg hg).1)); obtain ⟨pv',cv',rfl⟩:=zqai hown; clear hown hgrow)
     go_roundw
     case rel => exact ⟨k + 1,ps ++ [(.slice pq lz.length cq,⟨lz,z1,z2⟩)],hle.out,by go_num,zh ⟨by simp [HPs.out],HB9.out,HZ.out,fun j hj => HGd.out j hj ps HPs.out (.slice pq lz.length cq,⟨lz,z1,z2⟩) HJl.out ⟨hre.trans hE,HRt.out.2 hE⟩⟩⟩
     case measure => simp [intOf]; omega
  ·have:k = l.length:=by omega
   subst this;have HF:=zh HS.out;obtain ⟨pv,cv,rfl⟩:=zqai HS.out.2.2.1.1;clear HS hlk hk;go_wp2_with fail;go_ret2;exact ⟨HF.out.2.1,.inr ⟨_,ps,rfl,HF.out.2.2.1,HF.out.1,HF.out.2.2.2⟩⟩
theorem pj_no {a b:Ce} {w w':World} {k:Nat} (h:errJ a b = k) (hk:k ≠ 0) (hb:Below w.heap.size w w'):RJ14 a b w (.returned (.tuple #[.agg #[.int .u64 0,.int .i64 0,.slice none 0 0,.slice none 0 0],.int .i64 k])) w':=rj_no h hk hb
set_option maxHeartbeats 8000000 in
theorem zqp3 (w:World) (a b:Ce) (I N I' N':Value) (h:CeM w I N a) (h':CeM w I' N' b) (ha:CeW a) (hb:CeW b) (sa:ShortC 1000 a) (sb:ShortC 1000 b) (hT:Tab w) :
  Calls Tryz.prog 38 #[CeV a I N,CeV b I' N'] w (RJ14 a b w):=by
 obtain ⟨b1,b2,b3,b4⟩:=zqhg (w:=w) (T:=32) (cs:=#[.int .u64 a.key,.int .i64 a.cnt,I,N]) (ds:=#[.int .u64 b.key,.int .i64 b.cnt,I',N']) (es:=#[.int .u64 0,.int .i64 0,.slice none 0 0,.slice none 0 0]);have HB:=zh b4;have HX:=zh b1;have HY:=zh b2;have HZ:=zh b3;have HEW:=zh (fun w1 (hb1:Below w.heap.size w w1) (hl:a.is.length = b.is.length) => zqsf w1 I I' a.is b.is (h.i.below hb1) (h'.i.below hb1) hl sa.li ha.is hb.is (fun k hk => ⟨sa.sq k hk,sb.sq k (by omega)⟩))
 have HER:=zh (fun w1 (hb1:Below w.heap.size w w1) (hl:a.ns.length = b.ns.length) => zqse w1 N N' a.ns b.ns (h.n.below hb1) (h'.n.below hb1) hl sa.ln ha.ns hb.ns (hT.call hb1))
 have HAd:=zh (fun w1 => zqjy a.cnt b.cnt ha.cnt.1 ha.cnt.2 hb.cnt.1 hb.cnt.2 w1)
 have HArg:=zh (@zqyd a b);have HOv:=zh (@zquk a b);have HRe:=zh (@zql7 a b);have HCl:=zh (show fitB (a.cnt + b.cnt) = true → clip (a.cnt + b.cnt) = a.cnt + b.cnt from fun h => by simp [clip,h])
 have HM:=zh (And.intro sa.li sa.ln);obtain ⟨⟨p,k1,rfl⟩,p2,k2,rfl⟩:=h.slices;obtain ⟨⟨p',k1',rfl⟩,p2',k2',rfl⟩:=h'.slices;unfold EachW at HEW;unfold EachR at HER;clear h h' ha hb sa sb hT b1 b2 b3 b4;go_enter Tryz.func38,Tryz.ntmps38;go_upto_region 1 with fail;generalize ((w.alloc (CeO a (.slice p a.is.length k1) (.slice p2 a.ns.length k2))).alloc (CeO b (.slice p' b.is.length k1') (.slice p2' b.ns.length k2'))).alloc (.cells #[.int .u64 0,.int .i64 0,.slice none 0 0,.slice none 0 0] 32) = W at *;obtain ⟨⟨x0,x1,x2,x3⟩,-⟩:=zqac HX.out;obtain ⟨⟨y0,y1,y2,y3⟩,-⟩:=zqac HY.out;obtain ⟨⟨z0,z1,z2,z3⟩,zf⟩:=zqac HZ.out;have hlt:w.heap.size + 1 + 1 < W.heap.size:=(Array.getElem?_eq_some_iff.1 HZ.out).1;have HNo:=zh (fun (w9:World) (k:Nat) (hb9:Below W.heap.size W w9) (he:errJ a b = k) (hk:k ≠ 0) => And.intro (zqbg (k':=0) (n':=0) (I':=.slice none 0 0) (N':=.slice none 0 0) ((hb9.block _ hlt).trans HZ.out)) (pj_no he hk (zqa2 (R:=w.heap.size + 1 + 1) (k':=0) (n':=0) (I':=.slice none 0 0) (N':=.slice none 0 0) (HB.out.trans (hb9.mono HB.out.size)) (by omega))))
 unfold set4 at HNo;have hcases:(a.key != b.key) = true ∨ ((a.key != b.key) = false ∧ ((a.is.length:Int) != (b.is.length:Int)) = true) ∨ ((a.key != b.key) = false ∧ ((a.is.length:Int) != (b.is.length:Int)) = false ∧ ((a.ns.length:Int) != (b.ns.length:Int)) = true) ∨ ((a.key != b.key) = false ∧ ((a.is.length:Int) != (b.is.length:Int)) = false ∧ ((a.ns.length:Int) != (b.ns.length:Int)) = false):=by
  cases (a.key != b.key) <;> cases ((a.is.length:Int) != (b.is.length:Int)) <;> cases ((a.ns.length:Int) != (b.ns.length:Int)) <;> simp
 rcases hcases with e1 | ⟨e1,e2⟩ | ⟨e1,e2,e3⟩ | ⟨e1,e2,e3⟩
 ·have HR:=zh (HNo.out _ 1 (Below.refl _ _) (HArg.out (fun q => by simp at e1; exact e1 q.1)) (by decide))
  clear HEW HER HNo;go_wp2_with fail;obtain ⟨⟨r0,r1,r2,r3⟩,-⟩:=zqac HR.out.1;exact bodyPost_ret (v:=.tuple #[.agg #[.int .u64 0,.int .i64 0,.slice none 0 0,.slice none 0 0],.int .i64 1]) (by simp [results,Tryz.results38,go_sem,r0,r1,r2,r3]) rfl HR.out.2
 ·have HR:=zh (HNo.out _ 1 (Below.refl _ _) (HArg.out (fun q => by simp at e2; omega)) (by decide))
  clear HEW HER HNo;go_wp2_with fail;obtain ⟨⟨r0,r1,r2,r3⟩,-⟩:=zqac HR.out.1;exact bodyPost_ret (v:=.tuple #[.agg #[.int .u64 0,.int .i64 0,.slice none 0 0,.slice none 0 0],.int .i64 1]) (by simp [results,Tryz.results38,go_sem,r0,r1,r2,r3]) rfl HR.out.2
 ·have HR:=zh (HNo.out _ 1 (Below.refl _ _) (HArg.out (fun q => by simp at e3; omega)) (by decide))
  clear HEW HER HNo;go_wp2_with fail;obtain ⟨⟨r0,r1,r2,r3⟩,-⟩:=zqac HR.out.1;exact bodyPost_ret (v:=.tuple #[.agg #[.int .u64 0,.int .i64 0,.slice none 0 0,.slice none 0 0],.int .i64 1]) (by simp [results,Tryz.results38,go_sem,r0,r1,r2,r3]) rfl HR.out.2
 ·have HL:=zh (show a.key = b.key ∧ a.is.length = b.is.length ∧ a.ns.length = b.ns.length by simp at e1 e2 e3; exact ⟨e1,by omega,by omega⟩)
  have HOv2:=zh (HOv.out HL.out);have HRe2:=zh (HRe.out HL.out);clear HOv HRe HArg;go_wp2_with fail;refine (HAd.out _).mono ?_; rintro e w1 ⟨rfl,rfl⟩;generalize hft:fitB (a.cnt + b.cnt) = ft at *;cases ft with
  | false =>
   have HR:=zh (HNo.out _ 10 (Below.refl _ _) (HOv2.out (fun q => by cases q.1)) (by decide))
   clear HEW HER HNo;go_wp2_with fail;obtain ⟨⟨r0,r1,r2,r3⟩,-⟩:=zqac HR.out.1;exact bodyPost_ret (v:=.tuple #[.agg #[.int .u64 0,.int .i64 0,.slice none 0 0,.slice none 0 0],.int .i64 10]) (by simp [results,Tryz.results38,go_sem,r0,r1,r2,r3]) rfl HR.out.2
  | true =>
   have hcl:=HCl.out rfl;rw [hcl];have HCN:Hid (∃ q,a.cnt + b.cnt = q):=zh ⟨_,rfl⟩
   generalize hcn:a.cnt + b.cnt = cn at *;replace HCN:=zh hcn;clear hcl HCl hcn;go_wp2_with fail;refine (HEW.out _ HB.out HL.out.2.1).mono ?_; rintro e w2 ⟨hb2,hr⟩;have HW2:=zh hb2;have HB2:=zh (zqaa HB.out hb2);have x0:=cell_later hb2 x0;have x3:=cell_later hb2 x3;have y3:=cell_later hb2 y3;have hz2:=(hb2.block _ hlt).trans HZ.out;clear hb2 z0 z1 z2 z3 zf x1 x2 y0 y1 y2;obtain ⟨⟨z0,z1,z2,z3⟩,zf⟩:=zqac hz2;rcases hr with ⟨⟨k,hk,hok⟩,rfl⟩ | ⟨v,ps,rfl,hzv,hzl,hzj⟩
   ·have HR:=zh (HNo.out _ 10 HW2.out (HOv2.out (fun q => by have:=q.2 k hk; rw [hok] at this; cases this)) (by decide))
    clear HEW HER HNo hz2;go_wp2_with fail;obtain ⟨⟨r0,r1,r2,r3⟩,-⟩:=zqac HR.out.1;exact bodyPost_ret (v:=.tuple #[.agg #[.int .u64 0,.int .i64 0,.slice none 0 0,.slice none 0 0],.int .i64 10]) (by simp [results,Tryz.results38,go_sem,r0,r1,r2,r3]) rfl HR.out.2
   ·have HRe3:=zh (HRe2.out ⟨by trivial,fun k hk => (hzj k hk).1⟩)
    have HZV:=zh (And.intro hzv (And.intro hzl (fun k hk => (hzj k hk).2)))
    obtain ⟨pv,cv,rfl⟩:=zqai hzv.1;clear hzv hzl hzj HOv2 HRe2 hz2;go_wp2_with fail;refine (HER.out _ HB2.out HL.out.2.2).mono ?_; rintro e w3 ⟨hb3,hr⟩;have HW3:=zh (zqaa HW2.out hb3);have HB3:=zh (zqaa HB2.out hb3);have x0:=cell_later hb3 x0;have hz3:=(HW3.out.block _ hlt).trans HZ.out;have HZV3:=zh (HZV.out.1.below hb3);clear hb3 z0 z1 z2 z3 zf x3 y3;obtain ⟨⟨z0,z1,z2,z3⟩,zf⟩:=zqac hz3;rcases hr with ⟨k,hk,hj,hne,rfl⟩ | ⟨v2,rs,rfl,hzv,hzl,hzj⟩
    ·have hE:=HRe3.out.trans (zqn2 (f:=fun k => rErr (rg a.ns k) (rg b.ns k)) hj hne _ hk)
     have HR:=zh (HNo.out _ _ HW3.out hE hne);have hn:((rErr (rg a.ns k) (rg b.ns k):Int) != 0) = true:=by simp [hne]
     clear HEW HER HNo hz3 hE hj;generalize rErr (rg a.ns k) (rg b.ns k) = E at *;clear hne;go_wp2_with fail;obtain ⟨⟨r0,r1,r2,r3⟩,-⟩:=zqac HR.out.1;exact bodyPost_ret (v:=.tuple #[.agg #[.int .u64 0,.int .i64 0,.slice none 0 0,.slice none 0 0],.int .i64 E]) (by simp [results,Tryz.results38,go_sem,r0,r1,r2,r3]) rfl HR.out.2
    ·have hE:=HRe3.out.trans (zqgu (f:=fun k => rErr (rg a.ns k) (rg b.ns k)) _ (fun k hk => (hzj k hk).1))
     have HJC:=zh (show JC a b ⟨a.key,cn,ps.map Prod.snd,rs.map Prod.snd⟩ from ⟨rfl,HCN.out.symm,by simp [HZV.out.2.1],by simp [hzl],HZV.out.2.2,fun k hk => (hzj k hk).2⟩)
     obtain ⟨pv2,cv2,rfl⟩:=zqai hzv.1;have hS:=zqbg (k':=a.key) (n':=cn) (I':=.slice pv ps.length cv) (N':=.slice pv2 rs.length cv2) hz3;have hB:=zqa2 (R:=w.heap.size + 1 + 1) (k':=a.key) (n':=cn) (I':=.slice pv ps.length cv) (N':=.slice pv2 rs.length cv2) HB3.out (by omega)
     have hW:=zqq4 (k':=a.key) (n':=cn) (I':=.slice pv ps.length cv) (N':=.slice pv2 rs.length cv2) hz3 (by decide) (by decide) HZV3.out
     have hR:=zqq3 (k':=a.key) (n':=cn) (I':=.slice pv ps.length cv) (N':=.slice pv2 rs.length cv2) hz3 (by decide) (by decide) hzv
     unfold set4 at hS hB hW hR;have HS:=zh hS;have HBS:=zh hB;have HWS:=zh hW;have HRS:=zh hR;have HE:=zh hE;clear HEW HER HNo hzv hzl hzj hE hz3 hS hB hW hR;go_wp2_with fail;obtain ⟨⟨r0,r1,r2,r3⟩,-⟩:=zqac HS.out;exact bodyPost_ret (v:=.tuple #[CeV ⟨a.key,cn,ps.map Prod.snd,rs.map Prod.snd⟩ (.slice pv ps.length cv) (.slice pv2 rs.length cv2),.int .i64 0]) (by simp [results,Tryz.results38,go_sem,r0,r1,r2,r3]) rfl ⟨_,_,_,by rw [HE.out]; rfl,⟨HWS.out.wholes,HRS.out.reals⟩,fun _ => HJC.out,fun q => absurd HE.out q,HBS.out⟩
theorem OW.len {x:Int} {z:Wh} (h:OW x z) (hx:I64 x):z.sq.length ≤ 4:=by
 refine h.ty.wlen h.wd ?_;rw [h.sq];have h1:x * x = (x.natAbs:Int) * (x.natAbs:Int):=(Int.natAbs_mul_self' x).symm;have h2:(x.natAbs:Int) ≤ 9223372036854775808:=by have:=hx.1; have:=hx.2; omega
 have h3:(x.natAbs:Int) * (x.natAbs:Int) ≤ 9223372036854775808 * 9223372036854775808:=Int.mul_le_mul h2 h2 (by omega) (by decide)
 rw [h1];exact Int.lt_of_le_of_lt h3 (by decide)
theorem OW.w {x:Int} {z:Wh} (h:OW x z) (hx:I64 x) (h0:x ≠ -9223372036854775808):WhW z where
 sum:=by rw [h.sum]; exact hx
 abs:=by rw [h.abs]; have:=hx.1; have:=hx.2; unfold I64; omega
 sq:=h.wd
 len:=by have:=h.len hx; omega
 mn:=by rw [h.mn]; exact hx
 mx:=by rw [h.mx]; exact hx
theorem zquq (x:Nat):flagN x < 32:=by rcases zqj6 x with h | h | h | h | h <;> omega
theorem OR.w {x:Nat} {z:Re} (h:OR x z) (hx:W64 x):ReW z where
 sum:=h.sum.bt (zquq x)
 len:=by have:=h.sum.len; omega
 mn:=by rw [h.mn]; exact hx
 mx:=by rw [h.mx]; exact hx
theorem zqvy {S:Sc} {m:Int} {l:List Int}:0 ≤ ofL S m l ∧ ofL S m l ≤ 18446744073709551615:=by
 unfold ofL
 by_cases h:ofE S m l = 0
 ·rw [if_pos h];obtain ⟨h1,h2,h3⟩:=zq3a h;have hc:=(zqlj h1).1;have hz:=(zqib hc).2;have:=zqop hz h3 S.ds.length (Nat.le_refl _);omega
 ·rw [if_neg h]; omega
theorem zqq0 {S:Sc} {m:Int} {f:Fa} (h:oneE S m f = 0):checkL S = 0 ∧ fitsL S f = 0 ∧ ofE S m f.cs = 0 ∧ ∀ k,k < f.is.length → f.is.getD k 0 ≠ -9223372036854775808:=by
 unfold oneE at h
 split at h
 ·rename_i h1
  split at h
  ·rename_i h2
   split at h
   ·rename_i h3
    split at h
    ·cases h
    ·rename_i h4;exact ⟨h1,h2,h3,fun k hk e => h4 (zqqu hk e)⟩
   ·rename_i h3; exact absurd h h3
  ·rename_i h2; exact absurd h h2
 ·cases h
theorem OC.w {S:Sc} {m:Int} {f:Fa} {c:Ce} (h:OC S m f c) (hf:FaWf f) (h0:oneE S m f = 0):CeW c:=by
 obtain ⟨q1,q2,q3,q4⟩:=zqq0 h0;refine ⟨by rw [h.key]; exact zqvy,by rw [h.cnt]; unfold I64; decide,fun x hx => ?_,fun x hx => ?_⟩
 ·obtain ⟨k,hk,rfl⟩:=List.getElem_of_mem hx;have hk2:k < f.is.length:=by rw [← h.li]; exact hk
  rw [← zqbl hk];exact (h.is k hk2).w (zqew (P:=I64) hf.i hk2) (q4 k hk2)
 ·obtain ⟨k,hk,rfl⟩:=List.getElem_of_mem hx;have hk2:k < f.ns.length:=by rw [← h.ln]; exact hk
  rw [← zqa3 hk];exact (h.ns k hk2).w (zqew (P:=W64) hf.n hk2)
theorem OC.short {S:Sc} {m:Int} {f:Fa} {c:Ce} (h:OC S m f c) (hf:FaWf f) (h0:oneE S m f = 0):ShortC 20 c:=by
 obtain ⟨q1,q2,q3,q4⟩:=zqq0 h0;obtain ⟨-,-,k1,k2⟩:=zqmb q1 hf q2;refine ⟨by rw [h.li]; omega,by rw [h.ln]; omega,fun k hk => ?_⟩
 have hk2:k < f.is.length:=by rw [← h.li]; exact hk
 have:=(h.is k hk2).len (zqew (P:=I64) hf.i hk2);omega
theorem ShortC.mono {n m:Nat} {c:Ce} (h:ShortC n c) (hn:n ≤ m):ShortC m c:=⟨h.li,h.ln,fun k hk => Nat.le_trans (h.sq k hk) hn⟩
def exA:Fa:=⟨[1],[3],[]⟩
def exB:Fa:=⟨[0],[-5],[]⟩
theorem zq1g:oneE exT 0 exA = 0:=by decide +kernel
theorem zq1i:oneE exT 0 exB = 0:=by decide +kernel
theorem zq1f:ofL exT 0 exA.cs = 0:=by decide +kernel
theorem zq1h:ofL exT 0 exB.cs = 0:=by decide +kernel
theorem zq2z:FaWf exA:=by
 refine ⟨?_,?_,?_,by decide⟩
 ·intro x h; simp [exA] at h; omega
 ·intro x h; simp [exA] at h; omega
 ·intro x h; simp [exA] at h
theorem zq20:FaWf exB:=by
 refine ⟨?_,?_,?_,by decide⟩
 ·intro x h; simp [exB] at h; omega
 ·intro x h; simp [exB] at h; omega
 ·intro x h; simp [exB] at h
theorem zq2y {a b:Ce} (ha:OC exT 0 exA a) (hb:OC exT 0 exB b):errJ a b = 0:=by
 have hla:a.is.length = 1:=ha.li;have hlb:b.is.length = 1:=hb.li;have hna:a.ns.length = 0:=ha.ln;have hnb:b.ns.length = 0:=hb.ln;have h1:a.key = b.key ∧ a.is.length = b.is.length ∧ a.ns.length = b.ns.length:=⟨by rw [ha.key,hb.key,zq1f,zq1h],by omega,by omega⟩
 have h2:fitB (a.cnt + b.cnt) = true ∧ ∀ k,k < a.is.length → okW (wg a.is k) (wg b.is k) = true:=by
  refine ⟨by rw [ha.cnt,hb.cnt]; decide,fun k hk => ?_⟩
  obtain rfl:k = 0:=by omega
  have ka:=ha.is 0 (by decide)
  have kb:=hb.is 0 (by decide)
  unfold okW;rw [ka.sum,kb.sum,ka.abs,kb.abs]
  decide
 rw [zql7 h1 h2,hna]
 rfl
theorem zq1e {a b c:Ce} (ha:OC exT 0 exA a) (hb:OC exT 0 exB b) (h:JC a b c):∃ k ns,c = ⟨k,2,[⟨-2,8,[34],-5,3⟩],ns⟩:=by
 have hla:a.is.length = 1:=ha.li;have hlc:c.is.length = 1:=by rw [h.li]; exact hla
 have ka:=ha.is 0 (by decide)
 have kb:=hb.is 0 (by decide)
 have hj:=h.is 0 (by omega)
 have hc:=h.cnt;rw [ha.cnt,hb.cnt] at hc;obtain ⟨k,n,is,ns⟩:=c;simp only at hlc hj hc
 match is,hlc with
 | [z],_ =>
  have hz:wg [z] 0 = z:=rfl;rw [hz] at hj;obtain ⟨z0,z1,z2,z3,z4⟩:=z;have e0:=hj.sum;have e1:=hj.abs;have e3:=hj.mn;have e4:=hj.mx;have e2:=hj.sq;have ex:exA.is.getD 0 0 = 3:=rfl;have ey:exB.is.getD 0 0 = -5:=rfl;rw [ka.sum,kb.sum,ex,ey] at e0;rw [ka.abs,kb.abs,ex,ey] at e1;rw [ka.mn,kb.mn,ex,ey] at e3;rw [ka.mx,kb.mx,ex,ey] at e4;rw [ka.sq,kb.sq,ex,ey] at e2;simp only at e0 e1 e2 e3 e4;have h34:z2 = [34]:=zqd7 hj.wd (by intro x hx; simp at hx; omega) hj.ty (.inr (by decide)) (by rw [e2]; decide)
  refine ⟨k,ns,?_⟩;rw [h34,e0,e1,e3,e4,hc]
  rfl
theorem zqnz (w:World) (cd x:Int) {N:Nat} (hN:w.heap.size = N):Fact3 ((w.alloc (.cells #[.int .i64 cd] 3)).alloc (.cells #[.int .i64 x] 2)) (.slice (some ⟨N,0,none⟩) 1 1) (.slice (some ⟨N + 1,0,none⟩) 1 1) (.slice none 0 0) ⟨[cd],[x],[]⟩ :=
 ⟨(zqlr (k:=.i64) (w:=w) (x:=cd) (T:=3) hN).below (zqab _ _),zqlr (k:=.i64) (x:=x) (T:=2) (by simp [hN]),⟨none,0,rfl,by simp,.inl rfl⟩⟩
theorem zqq1 (w:World) (D I M V C J X:Value) (f:Fa) (h:Sch4 w D I M V exT) (h':Fact3 w C J X f) (hf:FaWf f) (hT:Tab w) (hT2:Tab64 w) (he:oneE exT 0 f = 0) :
  Calls Tryz.prog 37 #[SchV D I M V,.int .u32 0,FactV C J X] w fun e w' => ∃ c p k q l,e = .returned (.tuple #[.agg #[.int .u64 c.key,.int .i64 c.cnt,.slice p c.is.length k,.slice q c.ns.length l],.int .i64 0]) ∧ CeM w' (.slice p c.is.length k) (.slice q c.ns.length l) c ∧ OC exT 0 f c ∧ CeW c ∧ ShortC 20 c ∧ Below w.heap.size w w' :=
 (zqzv w D I M V C J X exT 0 f h zq21 h' hf (by decide) (by decide) hT hT2).mono fun e w' ⟨c,I,N,he2,hm,hok,_,hb⟩ => by
  obtain ⟨⟨p,k,rfl⟩,q,l,rfl⟩:=hm.slices;rw [he] at he2;exact ⟨c,p,k,q,l,he2,hm,hok he,(hok he).w hf he,(hok he).short hf he,hb⟩
theorem row4 {w:World} {P:Nat} {T:TypeId} {a b c d:Value} (h:w.heap[P]? = some (.cells #[a,b,c,d] T (0,0))):w.cell? ⟨P,0,none⟩ = some a ∧ w.cell? ⟨P,1,none⟩ = some b ∧ w.cell? ⟨P,2,none⟩ = some c ∧ w.cell? ⟨P,3,none⟩ = some d:=by
 refine ⟨by simp [World.cell?,h],by simp [World.cell?,h],by simp [World.cell?,h],by simp [World.cell?,h]⟩
set_option maxHeartbeats 8000000 in
theorem zqpq (w:World) (hT:Tab w) (hT2:Tab64 w):Calls Tryz.prog 11 #[] w fun e w' => e = .returned (.bool true) ∧ Below w.heap.size w w':=by
 obtain ⟨W1,hW1⟩:∃ W,w.alloc (.cells #[.string ⟨#[97]⟩,.int .i64 2] 76) = W:=⟨_,rfl⟩
 obtain ⟨W2,hW2⟩:∃ W,W1.alloc (.cells #[.string ⟨#[109]⟩] 9) = W:=⟨_,rfl⟩
 have hd:=zqye w w.heap.size 76 rfl;rw [hW1] at hd;have hs:=zqjw (W:=W1) (x:=⟨#[109]⟩) (T:=9) rfl;have z1:W1.heap.size = w.heap.size + 1:=by rw [← hW1]; simp
 rw [hW2,z1] at hs;have b1:=zqab w (.cells #[.string ⟨#[97]⟩,.int .i64 2] 76);rw [hW1] at b1;have b2:=zqab W1 (.cells #[.string ⟨#[109]⟩] 9);rw [hW2] at b2;have z2:W2.heap.size = w.heap.size + 1 + 1:=by rw [← hW2]; simp [z1]
 have b3:=zqab W2 (SchO (.slice (some ⟨w.heap.size,0,none⟩) 1 1) (.slice (some ⟨w.heap.size + 1,0,none⟩) 1 1) (.slice none 0 0) (.slice none 0 0));have hx:=zqa6 W2 (.slice (some ⟨w.heap.size,0,none⟩) 1 1) (.slice (some ⟨w.heap.size + 1,0,none⟩) 1 1) (.slice none 0 0) (.slice none 0 0);rw [z2] at hx;have HX:=zh hx;have HS:=zh (show Sch4 (W2.alloc (SchO (.slice (some ⟨w.heap.size,0,none⟩) 1 1) (.slice (some ⟨w.heap.size + 1,0,none⟩) 1 1) (.slice none 0 0) (.slice none 0 0))) (.slice (some ⟨w.heap.size,0,none⟩) 1 1) (.slice (some ⟨w.heap.size + 1,0,none⟩) 1 1) (.slice none 0 0) (.slice none 0 0) exT from
  ⟨(hd.below b2).below b3,hs.below b3,⟨none,0,rfl,by simp [exT],by simp [exT],.inl rfl⟩,⟨none,0,rfl,by simp [exT],.inl rfl⟩⟩)
 have HB:=zh (zqaa b1 (zqaa b2 b3));have HTb:=zh (fun w1 (h:Below w.heap.size w w1) => And.intro (hT.call h) (hT2.call h))
 clear hd hs z1 b1 b2 z2 b3 hx hT hT2;subst hW2 hW1;go_enter Tryz.func11,Tryz.ntmps11;go_upto_region 2 with fail;generalize ((w.alloc (.cells #[.string ⟨#[97]⟩,.int .i64 2] 76)).alloc (.cells #[.string ⟨#[109]⟩] 9)).alloc (SchO (.slice (some ⟨w.heap.size,0,none⟩) 1 1) (.slice (some ⟨w.heap.size + 1,0,none⟩) 1 1) (.slice none 0 0) (.slice none 0 0)) = W at *;obtain ⟨x0,x1,x2,x3⟩:=HX.out.reads;have hb:=zqaa (zqab W (.cells #[.int .i64 1] 3)) (zqab _ (.cells #[.int .i64 3] 2));have HB1:=zh (zqaa HB.out hb);have H1:=zh (zqq1 _ _ _ _ _ _ _ _ exA (HS.out.below hb) (zqnz W 1 3 rfl) zq2z (HTb.out _ HB1.out).1 (HTb.out _ HB1.out).2 zq1g);have HW1:=zh hb;clear hb;go_wp2_with fail;refine (H1.out).mono ?_; rintro e w1 ⟨a,p,k,q,l,rfl,ha,hoa,hwa,hsa,hb⟩;have hb2:=zqaa hb (zqab w1 (.cells #[.int .u64 a.key,.int .i64 a.cnt,.slice p a.is.length k,.slice q a.ns.length l] 32));have HW2:=zh (zqaa HW1.out hb2);have HA2:=zh (show (w1.alloc (.cells #[.int .u64 a.key,.int .i64 a.cnt,.slice p a.is.length k,.slice q a.ns.length l] 32)).heap[w1.heap.size]? = some (.cells #[.int .u64 a.key,.int .i64 a.cnt,.slice p a.is.length k,.slice q a.ns.length l] 32 (0,0)) from heap_alloc_new w1 _);have HAm:=zh (ha.below (zqab w1 (.cells #[.int .u64 a.key,.int .i64 a.cnt,.slice p a.is.length k,.slice q a.ns.length l] 32)));have HAo:=zh (And.intro hoa (And.intro hwa hsa));clear hb hb2 ha hoa hwa hsa H1 x0 x1 x2 x3;go_upto_region 3 with fail;generalize w1.alloc (.cells #[.int .u64 a.key,.int .i64 a.cnt,.slice p a.is.length k,.slice q a.ns.length l] 32) = w2 at *;have HB2:=zh (zqaa HB.out HW2.out);obtain ⟨x0,x1,x2,x3⟩:=(HX.out.below HW2.out).reads;have hb:=zqaa (zqab w2 (.cells #[.int .i64 0] 3)) (zqab _ (.cells #[.int .i64 (-5)] 2));have HB3:=zh (zqaa HB2.out hb);have H2:=zh (zqq1 _ _ _ _ _ _ _ _ exB ((HS.out.below HW2.out).below hb) (zqnz w2 0 (-5) rfl) zq20 (HTb.out _ HB3.out).1 (HTb.out _ HB3.out).2 zq1i);have HW3:=zh hb;clear hb;go_wp2_with fail;refine (H2.out).mono ?_; rintro e w3 ⟨b,p',k',q',l',rfl,hb',hob,hwb,hsb,hb⟩;have hb2:=zqaa hb (zqab w3 (.cells #[.int .u64 b.key,.int .i64 b.cnt,.slice p' b.is.length k',.slice q' b.ns.length l'] 32));have HW4:=zh (zqaa HW3.out hb2);have HB4:=zh (show (w3.alloc (.cells #[.int .u64 b.key,.int .i64 b.cnt,.slice p' b.is.length k',.slice q' b.ns.length l'] 32)).heap[w3.heap.size]? = some (.cells #[.int .u64 b.key,.int .i64 b.cnt,.slice p' b.is.length k',.slice q' b.ns.length l'] 32 (0,0)) from heap_alloc_new w3 _);have HBm:=zh (hb'.below (zqab w3 (.cells #[.int .u64 b.key,.int .i64 b.cnt,.slice p' b.is.length k',.slice q' b.ns.length l'] 32)));have HBo:=zh (And.intro hob (And.intro hwb hsb));clear hb hb2 hb' hob hwb hsb H2 x0 x1 x2 x3;go_upto_region 4 with fail;generalize w3.alloc (.cells #[.int .u64 b.key,.int .i64 b.cnt,.slice p' b.is.length k',.slice q' b.ns.length l'] 32) = w4 at *;have HBb:=zh (zqaa HB2.out HW4.out);obtain ⟨x0,x1,x2,x3⟩:=row4 ((HW4.out.block _ (Array.getElem?_eq_some_iff.1 HA2.out).1).trans HA2.out);obtain ⟨y0,y1,y2,y3⟩:=row4 HB4.out;have H3:=zh (zqp3 w4 a b _ _ _ _ (HAm.out.below HW4.out) HBm.out HAo.out.2.1 HBo.out.2.1 (HAo.out.2.2.mono (by decide)) (HBo.out.2.2.mono (by decide)) (HTb.out _ HBb.out).1)
 have HEr:=zh (zq2y HAo.out.1 HBo.out.1);have HJn:=zh (fun c h => zq1e (c:=c) HAo.out.1 HBo.out.1 h)
 unfold RJ14 at H3;rw [HEr.out] at H3;clear HAo HBo HEr;go_wp2_with fail;refine (H3.out).mono ?_; rintro e w5 ⟨c,I,N,rfl,hm,hok,-,hb⟩;obtain ⟨kk,ns,rfl⟩:=HJn.out c (hok (by trivial))
 obtain ⟨⟨pi,ci,rfl⟩,pn,cn,rfl⟩:=hm.slices;have hb5:=zqab w5 (.cells #[.int .u64 kk,.int .i64 2,.slice pi 1 ci,.slice pn ns.length cn] 32);obtain ⟨r0,r1,r2,r3⟩:=row4 (heap_alloc_new w5 (.cells #[.int .u64 kk,.int .i64 2,.slice pi 1 ci,.slice pn ns.length cn] 32));obtain ⟨bb,off,qq,rfl,hq⟩:=(hm.i.below hb5).at (i:=0) (by show 0 < 1; decide)
 have HB6:=zh (zqaa (zqaa HBb.out hb) hb5);clear hb hb5 H3 hok hm x0 x1 x2 x3 y0 y1 y2 y3 HJn;go_upto_region 5 with fail;generalize w5.alloc (.cells #[.int .u64 kk,.int .i64 2,.slice (some ⟨bb,off,none⟩) 1 ci,.slice pn ns.length cn] 32) = w6 at *;obtain ⟨s0,s1,s2,s3,s4,s5⟩:=hq;obtain ⟨qp,qc,rfl,-,-⟩:=id s5;have HQ:=zh s5;have hw:wg [⟨-2,8,[34],-5,3⟩] 0 = ⟨-2,8,[34],-5,3⟩:=rfl;simp only [Nat.zero_mul,Nat.add_zero] at s0 s1 s2 s3 s4;rw [hw] at s0 s1 s2 s3 s4 HQ
 dsimp only at s0 s1 s2 s3 s4 HQ
 have HSm:=zh (fun (u:Value) (w7:World) (hv:Ints .u32 w7 u [34]) (hb:Below w6.heap.size w6 w7) => zqku (.slice qp 1 qc) u [34] [34] w7 (HQ.out.below hb) hv (by decide))
 have hdd:decide ([34] = ([34]:List Int)) = true:=by decide
 rw [hdd] at HSm;clear s5 hw hdd;go_wp2_with fail;refine (HSm.out _ _ (zqlr (k:=.u32) (w:=w6) (x:=34) (T:=27) rfl) (zqab _ _)).mono ?_; rintro e w8 ⟨rfl,hd⟩;have hb8:=zqaa (zqab w6 (.cells #[.int .u32 34] 27)) hd.below;have HB8:=zh (zqaa HB6.out hb8);have r2:=cell_later hb8 r2;have s3:=cell_later hb8 s3;have s4:=cell_later hb8 s4;clear hd hb8 HSm;go_wp2_with fail;go_ret;exact ⟨rfl,HB8.out⟩
theorem zqws {l:List Int} (hb:Bt l) (h:errN l = 0):l.length ≤ 283:=by
 have h1:=(zqgt h).2.2.2.2.1;have h2:=(zqef hb h).2.2.1;omega
theorem zqp5 {S:Sc} {m:Int} {c:Ce} (h:CeW c) (hr:rightC S m c = true):c.is.length = S.is.length ∧ c.ns.length = S.ns.length ∧ (∀ x ∈ c.is,x.sq.length ≤ 7) ∧ ∀ x ∈ c.ns,x.sum.length ≤ 283:=by
 unfold rightC validC at hr;simp only [Bool.and_eq_true,decide_eq_true_eq] at hr;obtain ⟨-,⟨⟨⟨-,h1⟩,h2⟩,h3⟩,h4⟩:=hr;refine ⟨h1,h2,fun x hx => ?_,fun x hx => ?_⟩
 ·obtain ⟨k,hk,rfl⟩:=List.getElem_of_mem hx;cases e:rightW (wg c.is k) with
  | false => rw [zqla hk e] at h3; cases h3
  | true =>
   rw [zqbl hk] at e;unfold rightW at e;simp only [Bool.and_eq_true,decide_eq_true_eq] at e;exact e.1.2
 ·obtain ⟨k,hk,rfl⟩:=List.getElem_of_mem hx;cases e:rightR (rg c.ns k) with
  | false => rw [zqf7 hk e] at h4; cases h4
  | true =>
   rw [zqa3 hk] at e;unfold rightR at e;simp only [Bool.and_eq_true,decide_eq_true_eq] at e;exact zqws (h.ns _ hx).sum e.1
end Go.Proofs.YtpgchfihedcdkaaGreatDoor
