/- Contracts that the law leans on: Aggl Aggo Opn Keya Keyb. -/
import Derived.Deep.CutRange
import Derived.Deep.Slices
import Derived.Deep.Fields
import Derived.ChangeSame
import Derived.ChangeSlices
import Derived.Lib.SmallJoins
import Derived.Test.YtafmghloohhaeaaGreatDoorPt02
import Derived.Test.YtafmghloohhaeaaGreatDoorPt05
import Derived.Test.YtafmghloohhaeaaGreatDoorPt07
import Derived.Test.YtafmghloohhaeaaGreatDoorPt12
import Derived.Test.YtafmghloohhaeaaGreatDoorPt18
import Derived.Test.YtafmghloohhaeaaGreatDoorPt24
import Derived.Test.YtafmghloohhaeaaGreatDoorPt25
namespace Go.Proofs.YtafmghloohhaeaaGreatDoor
set_option maxRecDepth 100000
open Go.RowKit
set_option linter.unusedVariables false
theorem hold10 {w w':World} (hb:Below w.heap.size w w') {p0 p1 p2 p3 p4 p5 p6 p7 p8 p9:Addr} {v0 v1 v2 v3 v4 v5 v6 v7 v8 v9:Value}
  (h:w.cell? p0 = some v0 ∧ w.cell? p1 = some v1 ∧ w.cell? p2 = some v2 ∧ w.cell? p3 = some v3 ∧ w.cell? p4 = some v4 ∧ w.cell? p5 = some v5 ∧ w.cell? p6 = some v6 ∧ w.cell? p7 = some v7 ∧ w.cell? p8 = some v8 ∧ w.cell? p9 = some v9) :
  w'.cell? p0 = some v0 ∧ w'.cell? p1 = some v1 ∧ w'.cell? p2 = some v2 ∧ w'.cell? p3 = some v3 ∧ w'.cell? p4 = some v4 ∧ w'.cell? p5 = some v5 ∧ w'.cell? p6 = some v6 ∧ w'.cell? p7 = some v7 ∧ w'.cell? p8 = some v8 ∧ w'.cell? p9 = some v9:=by
 obtain ⟨h0,h1,h2,h3,h4,h5,h6,h7,h8,h9⟩:=h;exact ⟨cell_later hb h0,cell_later hb h1,cell_later hb h2,cell_later hb h3,cell_later hb h4,cell_later hb h5,cell_later hb h6,cell_later hb h7,cell_later hb h8,cell_later hb h9⟩
theorem JWP.raw {x y:Wh} {w w':World} {e:Ending} (h:JWP x y w e w'):∃ (z0 z1:Int) (lz:List Int) (z3 z4:Int) (p:Option Addr) (c E:Nat),e = .returned (.tuple #[.agg #[.int .i64 z0,.int .i64 z1,.slice p lz.length c,.int .i64 z3,.int .i64 z4],.int .i64 E]) ∧ Below w.heap.size w w' ∧ ((okW x y = false ∧ E = 10) ∨ (okW x y = true ∧ E = 0 ∧ JW x y ⟨z0,z1,lz,z3,z4⟩)) ∧
  w'.ownsRow w.heap.size 27 1 (.slice p lz.length c) lz.length (lz.map (Value.int .u32)):=by
 obtain ⟨⟨z0,z1,lz,z3,z4⟩,q,E,rfl,h1,h2,h3⟩:=h;obtain ⟨p,c,rfl⟩:=zqag h3;exact ⟨z0,z1,lz,z3,z4,p,c,E,rfl,h1,h2,h3⟩
theorem zqmo {W w2:World} {cs:Array Value} {T:TypeId} (hb:Below (W.alloc (.cells cs T)).drew.heap.size (W.alloc (.cells cs T)).drew w2):w2.heap[W.heap.size]? = some (.cells cs T (0,0)) ∧ Below W.heap.size W w2 :=
 ⟨(hb.block W.heap.size (by simp)).trans (heap_alloc_new W _),zqaa (zqab _ _) (zqb4 hb)⟩
theorem zqmp {W w2:World} {cs:Array Value} {T:TypeId} (hb:Below (W.drew.alloc (.cells cs T)).heap.size (W.drew.alloc (.cells cs T)) w2):w2.heap[W.heap.size]? = some (.cells cs T (0,0)) ∧ Below W.heap.size W w2 :=
 ⟨(hb.block W.heap.size (by simp)).trans (heap_alloc_new W.drew _),zqb4 (zqaa (zqab _ _) hb)⟩
def MadeAt14 (T:TypeId) (w:World) (M:Nat) (cs:Array Value) (wx:World):Prop:=wx.heap[M]? = some (.cells cs T (0,0)) ∧ Below w.heap.size w wx ∧ w.heap.size ≤ M
theorem zqi4 {T:TypeId} {W w2:World} {cs:Array Value} (hb:Below W.heap.size W w2):MadeAt14 T W w2.heap.size cs (w2.alloc (.cells cs T)):=⟨heap_alloc_new _ _,zqaa hb (zqab _ _),hb.size⟩
theorem zqts {T:TypeId} {W w2:World} {a b c d e a' b' c' d' e':Value} (hM:w2.heap[W.heap.size]? = some (.cells #[a',b',c',d',e'] T (0,0))) (hb:Below W.heap.size W w2):MadeAt14 T W W.heap.size #[a,b,c,d,e] (set5 w2 W.heap.size a b c d e):=⟨zqei hM,zqch hb (Nat.le_refl _),Nat.le_refl _⟩
theorem zqtr {T:TypeId} {W w2:World} {a b c a' b' c':Value} (hM:w2.heap[W.heap.size]? = some (.cells #[a',b',c'] T (0,0))) (hb:Below W.heap.size W w2):MadeAt14 T W W.heap.size #[a,b,c] (set3 w2 W.heap.size a b c):=⟨zqeh hM,zqcg hb (Nat.le_refl _),Nat.le_refl _⟩
def EachW (l m:List Wh) (w:World) (e:Ending) (w':World):Prop :=
 Below w.heap.size w w' ∧ (((∃ k,k < l.length ∧ okW (wg l k) (wg m k) = false) ∧ e = .returned (.tuple #[.slice none 0 0,.int .i64 10])) ∨
  ∃ v ps,e = .returned (.tuple #[v,.int .i64 0]) ∧ WsOwn w' w.heap.size v ps ∧ ps.length = l.length ∧ ∀ k,k < l.length → okW (wg l k) (wg m k) = true ∧ JW (wg l k) (wg m k) (wg (ps.map Prod.snd) k))
set_option maxHeartbeats 8000000 in
theorem zqql (w:World) (u v:Value) (l m:List Wh) (hu:Wholes w u l) (hv:Wholes w v m) (hl:l.length = m.length) (h10:l.length ≤ 10) (hw:∀ x ∈ l,WhW x) (hw':∀ x ∈ m,WhW x) (hs:∀ k,k < l.length → (wg l k).sq.length ≤ 1000 ∧ (wg m k).sq.length ≤ 1000) :
  Calls Tryz.prog 45 #[u,v,.func (.func 46) #[] #[]] w (EachW l m w):=by
 have HU:=zh hu;have HV:=zh hv;have HJ:=zh (fun k (hk:k < l.length) w1 q r (hq:Ints .u32 w1 q (wg l k).sq) (hr:Ints .u32 w1 r (wg m k).sq) => zqqm w1 (wg l k) (wg m k) q r hq hr (by rw [zqa5 hk]; exact hw _ (List.getElem_mem _)) (by rw [zqa5 (show k < m.length by omega)]; exact hw' _ (List.getElem_mem _)) (hs k hk).1 (hs k hk).2)
 have HL:=zh (And.intro hl h10);obtain ⟨i0,hi,hz0,hz1,hz2⟩:=info_parts Tryz.infoWhole;unfold EachW;obtain ⟨a,c,rfl,-⟩:=hu;obtain ⟨a',c',rfl,-⟩:=hv;clear hl h10 hw hw' hs;go_enter Tryz.func45,Tryz.ntmps45;go_wp2_with fail;go_loopw [8,15] (fun lv iv wr => ∃ (k:Nat) (ps:List (Value × Wh)),k ≤ l.length ∧ iv = .int .i64 k ∧ Hid (ps.length = k ∧ Below w.heap.size w wr ∧ WsOwn wr w.heap.size lv ps ∧ ∀ j,j < k → okW (wg l j) (wg m j) = true ∧ JW (wg l j) (wg m j) (wg (ps.map Prod.snd) j))) (fun _ iv _ => l.length - (intOf iv).toNat)
 case atStart => exact ⟨0,[],Nat.zero_le _,rfl,zh ⟨rfl,Below.refl _ _,WsOwn.nil _ _,fun j hj => by omega⟩⟩
 case round =>
  obtain ⟨k,ps,hk,rfl,HS⟩:=hrel;have hmi:l.length ≤ 9223372036854775807:=by have:=HL.out.2; omega
  by_cases hlk:k < l.length
  ·have hlk':(k:Int) < (l.length:Int):=by omega
   have hkb0:k < m.length:=by have:=HL.out.1; omega
   have hkb:(k:Int) < (m.length:Int):=by omega
   obtain ⟨ba,oa,qa,rfl,hqa⟩:=(HU.out.below HS.out.2.1).at hlk;obtain ⟨bb,ob,qb,rfl,hqb⟩:=(HV.out.below HS.out.2.1).at hkb0;have hle:Hid (k + 1 ≤ l.length):=zh (by omega)
   have HJk:=zh (HJ.out k hlk);have HGd:=zh (fun j (hj:j < k + 1) (ps':List (Value × Wh)) (hp:ps'.length = k) (p:Value × Wh) (hp2:∀ j,j < k → okW (wg l j) (wg m j) = true ∧ JW (wg l j) (wg m j) (wg (ps'.map Prod.snd) j)) (h:okW (wg l k) (wg m k) = true ∧ JW (wg l k) (wg m k) p.2) => show okW (wg l j) (wg m j) = true ∧ JW (wg l j) (wg m j) (wg ((ps' ++ [p]).map Prod.snd) j) from
    if e:j = k then by
     subst e;have e2:wg ((ps' ++ [p]).map Prod.snd) j = p.2:=by rw [zqa5 (by simp [hp])]; simp [hp]
     rw [e2]; exact h
    else by
     have e2:wg ((ps' ++ [p]).map Prod.snd) j = wg (ps'.map Prod.snd) j:=by rw [zqa5 (by simp [hp]; omega),zqa5 (by simp [hp]; omega)]; simp [List.getElem_append_left,hp,show j < k by omega]
     rw [e2]; exact hp2 j (by omega))
   obtain ⟨f0,f1,f2,f3,f4,f5⟩:=hqa;obtain ⟨g0,g1,g2,g3,g4,g5⟩:=hqb;have HF5:=zh (And.intro f5 g5);have HJz:=zh (fun z => show JW (wg l k) (wg m k) z → JW (wg l k) (wg m k) z from id)
   obtain ⟨xx,hxx⟩:∃ xx,wg l k = xx:=⟨_,rfl⟩
   obtain ⟨yy,hyy⟩:∃ yy,wg m k = yy:=⟨_,rfl⟩
   have HXY:=zh (And.intro hxx hyy);rw [hxx] at f0 f1 f3 f4 HJk HF5;rw [hyy] at g0 g1 g3 g4 HJk HF5;clear hxx hyy HJz f5 g5;obtain ⟨x0,x1,lx,x3,x4⟩:=xx;obtain ⟨y0,y1,ly,y3,y4⟩:=yy;have HF6:=zh HF5.out;obtain ⟨⟨pa,pac,rfl,-,-⟩,pb,pbc,rfl,-,-⟩:=HF5.out
   dsimp only at f0 f1 f3 f4 g0 g1 g3 g4 HF6 HJk
   clear HF5;go_upto_region 5 with fail;have hHT0:=zqab wr (.cells #[.int .i64 x0,.int .i64 x1,.slice pa lx.length pac,.int .i64 x3,.int .i64 x4] 45);obtain ⟨hx0,hx1,hx2,hx3,hx4⟩:=row5 (heap_alloc_new wr (.cells #[.int .i64 x0,.int .i64 x1,.slice pa lx.length pac,.int .i64 x3,.int .i64 x4] 45));have hy0:=cell_later hHT0 g0;have hy1:=cell_later hHT0 g1;have hy2:=cell_later hHT0 g2;have hy3:=cell_later hHT0 g3;have hy4:=cell_later hHT0 g4;have hblt:bb < wr.heap.size:=World.block_lt_of_cell? _ _ g0;have HT0:=zh hHT0;have HB0:=zh (HS.out.2.1.trans (HT0.out.mono HS.out.2.1.size));have hk0:(wr.alloc (.cells #[.int .i64 x0,.int .i64 x1,.slice pa lx.length pac,.int .i64 x3,.int .i64 x4] 45)).cell? ⟨wr.heap.size,0,none⟩ = some (.int .i64 x0) ∧ (wr.alloc (.cells #[.int .i64 x0,.int .i64 x1,.slice pa lx.length pac,.int .i64 x3,.int .i64 x4] 45)).cell? ⟨wr.heap.size,1,none⟩ = some (.int .i64 x1) ∧ (wr.alloc (.cells #[.int .i64 x0,.int .i64 x1,.slice pa lx.length pac,.int .i64 x3,.int .i64 x4] 45)).cell? ⟨wr.heap.size,2,none⟩ = some (.slice pa lx.length pac) ∧ (wr.alloc (.cells #[.int .i64 x0,.int .i64 x1,.slice pa lx.length pac,.int .i64 x3,.int .i64 x4] 45)).cell? ⟨wr.heap.size,3,none⟩ = some (.int .i64 x3) ∧ (wr.alloc (.cells #[.int .i64 x0,.int .i64 x1,.slice pa lx.length pac,.int .i64 x3,.int .i64 x4] 45)).cell? ⟨wr.heap.size,4,none⟩ = some (.int .i64 x4) ∧ (wr.alloc (.cells #[.int .i64 x0,.int .i64 x1,.slice pa lx.length pac,.int .i64 x3,.int .i64 x4] 45)).cell? ⟨bb,ob + k * 5,none⟩ = some (.int .i64 y0) ∧ (wr.alloc (.cells #[.int .i64 x0,.int .i64 x1,.slice pa lx.length pac,.int .i64 x3,.int .i64 x4] 45)).cell? ⟨bb,ob + k * 5 + 1,none⟩ = some (.int .i64 y1) ∧ (wr.alloc (.cells #[.int .i64 x0,.int .i64 x1,.slice pa lx.length pac,.int .i64 x3,.int .i64 x4] 45)).cell? ⟨bb,ob + k * 5 + 2,none⟩ = some (.slice pb ly.length pbc) ∧ (wr.alloc (.cells #[.int .i64 x0,.int .i64 x1,.slice pa lx.length pac,.int .i64 x3,.int .i64 x4] 45)).cell? ⟨bb,ob + k * 5 + 3,none⟩ = some (.int .i64 y3) ∧ (wr.alloc (.cells #[.int .i64 x0,.int .i64 x1,.slice pa lx.length pac,.int .i64 x3,.int .i64 x4] 45)).cell? ⟨bb,ob + k * 5 + 4,none⟩ = some (.int .i64 y4):=⟨hx0,hx1,hx2,hx3,hx4,hy0,hy1,hy2,hy3,hy4⟩;clear hHT0 hx0 hx1 hx2 hx3 hx4 hy0 hy1 hy2 hy3 hy4 f0 g0 f1 g1 f2 g2 f3 g3 f4 g4;have HWs:Hid (wr.heap.size + 1 = (wr.alloc (.cells #[.int .i64 x0,.int .i64 x1,.slice pa lx.length pac,.int .i64 x3,.int .i64 x4] 45)).heap.size):=zh (by simp)
   have HIn:=zh (And.intro (HF6.out.1.below HT0.out) (HF6.out.2.below HT0.out));generalize wr.alloc (.cells #[.int .i64 x0,.int .i64 x1,.slice pa lx.length pac,.int .i64 x3,.int .i64 x4] 45) = W at *;have HJz:=zh (fun w1 (hb:Below W.heap.size W w1) => HJk.out w1 _ _ (HIn.out.1.below hb) (HIn.out.2.below hb))
   clear HJk HJ;go_cut [11,12] from 16 to 37 (fun v11 v12 wx => ∃ (M E:Nat) (z0 z1:Int) (lz:List Int) (z3 z4:Int) (pq:Option Addr) (cq:Nat),v11 = .pointer (some ⟨M,0,none⟩) ∧ v12 = .int .i64 E ∧ Hid (MadeAt14 45 W M #[.int .i64 z0,.int .i64 z1,.slice pq lz.length cq,.int .i64 z3,.int .i64 z4] wx ∧ ((okW (wg l k) (wg m k) = false ∧ E = 10) ∨ (okW (wg l k) (wg m k) = true ∧ E = 0 ∧ JW (wg l k) (wg m k) ⟨z0,z1,lz,z3,z4⟩)) ∧ wx.ownsRow W.heap.size 27 1 (.slice pq lz.length cq) lz.length (lz.map (Value.int .u32))))
   case first =>
    have hk:W.drew.cell? ⟨wr.heap.size,0,none⟩ = some (.int .i64 x0) ∧ W.drew.cell? ⟨wr.heap.size,1,none⟩ = some (.int .i64 x1) ∧ W.drew.cell? ⟨wr.heap.size,2,none⟩ = some (.slice pa lx.length pac) ∧ W.drew.cell? ⟨wr.heap.size,3,none⟩ = some (.int .i64 x3) ∧ W.drew.cell? ⟨wr.heap.size,4,none⟩ = some (.int .i64 x4) ∧ W.drew.cell? ⟨bb,ob + k * 5,none⟩ = some (.int .i64 y0) ∧ W.drew.cell? ⟨bb,ob + k * 5 + 1,none⟩ = some (.int .i64 y1) ∧ W.drew.cell? ⟨bb,ob + k * 5 + 2,none⟩ = some (.slice pb ly.length pbc) ∧ W.drew.cell? ⟨bb,ob + k * 5 + 3,none⟩ = some (.int .i64 y3) ∧ W.drew.cell? ⟨bb,ob + k * 5 + 4,none⟩ = some (.int .i64 y4):=hk0;go_region_held3 (fun w' => w'.cell? ⟨wr.heap.size,0,none⟩ = some (.int .i64 x0) ∧ w'.cell? ⟨wr.heap.size,1,none⟩ = some (.int .i64 x1) ∧ w'.cell? ⟨wr.heap.size,2,none⟩ = some (.slice pa lx.length pac) ∧ w'.cell? ⟨wr.heap.size,3,none⟩ = some (.int .i64 x3) ∧ w'.cell? ⟨wr.heap.size,4,none⟩ = some (.int .i64 x4) ∧ w'.cell? ⟨bb,ob + k * 5,none⟩ = some (.int .i64 y0) ∧ w'.cell? ⟨bb,ob + k * 5 + 1,none⟩ = some (.int .i64 y1) ∧ w'.cell? ⟨bb,ob + k * 5 + 2,none⟩ = some (.slice pb ly.length pbc) ∧ w'.cell? ⟨bb,ob + k * 5 + 3,none⟩ = some (.int .i64 y3) ∧ w'.cell? ⟨bb,ob + k * 5 + 4,none⟩ = some (.int .i64 y4)) (first | (with_reducible exact hk) | exact hold10 (by repeat' first | exact Below.refl _ _ | refine Below.drew ?_ | refine Below.alloc ?_ (by first | exact Nat.le_refl _ | exact hBw.size | (simp; done) | (simp; omega) | (have:=hBw.size; simp; omega)) _ | refine Below.setCell ?_ (by first | exact Nat.le_refl _ | (simp; done) | (simp; omega)) _ | exact hBw) hk0)
     (first
      | (go_at_call 46; refine (HJz.out _ (by (repeat' first | exact Below.refl _ _ | refine Below.drew ?_ | refine Below.alloc ?_ (by first | exact Nat.le_refl _ | (simp; done) | (simp; omega)) _); done)).mono ?_; rintro e w2 hr; obtain ⟨z0,z1,lz,z3,z4,pq,cq,E,rfl,hb2,hj,ho⟩:=JWP.raw hr; (first | (have hBw:Below W.heap.size W w2:=zqb4 hb2) | (obtain ⟨hMz,hBw⟩:=zqmo (W:=W) (w2:=w2) (cs:=#[.int .i64 0,.int .i64 0,.slice none 0 0,.int .i64 0,.int .i64 0]) (T:=45) hb2; have zf:=zqbm hMz; obtain ⟨e0,e1,e2,e3,e4⟩:=row5 hMz) | (obtain ⟨hMz,hBw⟩:=zqmp (W:=W) (w2:=w2) (cs:=#[.int .i64 0,.int .i64 0,.slice none 0 0,.int .i64 0,.int .i64 0]) (T:=45) hb2; have zf:=zqbm hMz; obtain ⟨e0,e1,e2,e3,e4⟩:=row5 hMz)); have hk:=hold10 hBw hk0; have HJr:=zh hj; rw [← HXY.out.1,← HXY.out.2] at HJr; have HO2:=zh (zqaw ho (B':=W.heap.size) (by simp)); clear hr hb2 hj ho))
    all_goals
     go_wp2_with fail;go_meet
     first
      | (have h1:=zqts (a:=.int .i64 z0) (b:=.int .i64 z1) (c:=.slice pq lz.length cq) (d:=.int .i64 z3) (e:=.int .i64 z4) hMz hBw; have h2:=zqig (a:=.int .i64 z0) (b:=.int .i64 z1) (c:=.slice pq lz.length cq) (d:=.int .i64 z3) (e:=.int .i64 z4) hMz (by decide) HO2.out; exact ⟨W.heap.size,E,z0,z1,lz,z3,z4,pq,cq,rfl,rfl,zh ⟨h1,HJr.out,h2⟩⟩)
      | (have h1:=zqi4 (T:=45) (cs:=#[.int .i64 z0,.int .i64 z1,.slice pq lz.length cq,.int .i64 z3,.int .i64 z4]) hBw; have h2:=zqav HO2.out (zqab w2 (.cells #[.int .i64 z0,.int .i64 z1,.slice pq lz.length cq,.int .i64 z3,.int .i64 z4] 45)); exact ⟨w2.heap.size,E,z0,z1,lz,z3,z4,pq,cq,rfl,rfl,zh ⟨h1,HJr.out,h2⟩⟩)
   case rest =>
    obtain ⟨M,E,z0,z1,lz,z3,z4,pq,cq,rfl,rfl,hC⟩:=hcut;obtain ⟨e0,e1,e2,e3,e4⟩:=row5 hC.out.1.1;have HBc:=zh (HB0.out.trans (hC.out.1.2.1.mono HB0.out.size));have HWs:=zh (HS.out.2.2.1.below (zqaa HT0.out hC.out.1.2.1));have HOq:=zh (zqaw hC.out.2.2 (B':=w.heap.size) HB0.out.size);have HPs:=zh HS.out.1;have HJl:=zh HS.out.2.2.2;have HRs:=zh hC.out.2.1;clear hC hk0 HJz HXY HIn HF6 HT0;rcases HRs.out with ⟨hok,rfl⟩ | ⟨hok,rfl,hJW⟩
    ·have HR:=zh HRs.out;clear e0 e1 e2 e3 e4 HRs;go_wp2_with fail;go_ret2;exact ⟨HBc.out,.inl ⟨⟨k,hlk,hok⟩,rfl⟩⟩
    ·obtain ⟨pv,cv,rfl⟩:=zqag HWs.out.1;clear HRs;go_wp2_with (at_builtin; refine wpList_append_own _ rfl _ _ 29 rfl w.heap.size 45 i0 (.agg #[.int .i64 0,.int .i64 0,.slice none 0 0,.int .i64 0,.int .i64 0]) 5 56 Tryz.underlying29 hi hz0 hz1 hz2 zqek (by decide) _ _ (cellsW ps) rfl (zqav HWs.out.1 (zqab _ _)) ⟨wc.heap.size,0,none⟩ 1 1 [.int .i64 z0,.int .i64 z1,.slice pq lz.length cq,.int .i64 z3,.int .i64 z4] rfl rfl (World.news_of_block (heap_alloc_new wc _)) (by intro u hu; simp at hu; rcases hu with rfl | rfl | rfl | rfl | rfl <;> rfl) (by have:=HPs.out; have:=HL.out.2; unfold maxLen; omega) (by have:=HPs.out; have:=HL.out.2; omega) (by have:=HBc.out.size; simp; omega) ?_; intro v' w9 hown hgrow hiff; clear hiff; have HZ:=zh (WsOwn.push (x:=⟨z0,z1,lz,z3,z4⟩) (HWs.out.below (zqab _ _)) (zqav HOq.out (zqab _ _)) hown hgrow); have HB9:=zh (Below.grown (zqaa HBc.out (zqab _ _)) hgrow (by have:=HBc.out.size; simp; omega) (fun gg hg => (World.ownsRow.lt HWs.out.1 gg hg).1)); obtain ⟨pv',cv',rfl⟩:=zqag hown; clear hown hgrow)
     go_roundw
     case rel => exact ⟨k + 1,ps ++ [(.slice pq lz.length cq,⟨z0,z1,lz,z3,z4⟩)],hle.out,by go_num,zh ⟨by simp [HPs.out],HB9.out,HZ.out,fun j hj => HGd.out j hj ps HPs.out (.slice pq lz.length cq,⟨z0,z1,lz,z3,z4⟩) HJl.out ⟨hok,hJW⟩⟩⟩
     case measure => simp [intOf]; omega
  ·have:k = l.length:=by omega
   subst this;have HF:=zh HS.out;obtain ⟨pv,cv,rfl⟩:=zqag HS.out.2.2.1.1;clear HS hlk hk;go_wp2_with fail;go_ret2;exact ⟨HF.out.2.1,.inr ⟨_,ps,rfl,HF.out.2.2.1,HF.out.1,HF.out.2.2.2⟩⟩
structure OW (x:Int) (z:Wh):Prop where
 sum:z.sum = x
 abs:z.abs = (x.natAbs:Int)
 wd:Wd z.sq
 ty:Tidy z.sq
 sq:wv z.sq = x * x
 mn:z.mn = x
 mx:z.mx = x
structure OR (x:Nat) (z:Re):Prop where
 sum:IsEnc (flagN x) (unitsI x) z.sum
 mn:z.mn = x
 mx:z.mx = x
theorem OW.same {x:Int} {z z':Wh} (h:OW x z) (k:OW x z'):z = z':=by
 obtain ⟨a1,b1,c1,d1,e1⟩:=z;obtain ⟨a2,b2,c2,d2,e2⟩:=z';have h1:=h.sum.trans k.sum.symm;have h2:=h.abs.trans k.abs.symm;have h3:=zqbl h.wd k.wd h.ty k.ty (h.sq.trans k.sq.symm);have h4:=h.mn.trans k.mn.symm;have h5:=h.mx.trans k.mx.symm;simp only at h1 h2 h3 h4 h5;subst h1 h2 h3 h4 h5
 rfl
theorem OR.same {x:Nat} {z z':Re} (h:OR x z) (k:OR x z'):z = z':=by
 obtain ⟨a1,b1,c1⟩:=z;obtain ⟨a2,b2,c2⟩:=z';have h1:=h.sum.unique k.sum;have h2:=h.mn.trans k.mn.symm;have h3:=h.mx.trans k.mx.symm;simp only at h1 h2 h3;subst h1 h2 h3
 rfl
def OWP (x:Int) (w:World) (e:Ending) (w':World):Prop :=
 ∃ (z0 z1:Int) (lz:List Int) (z3 z4:Int) (p:Option Addr) (c E:Nat),e = .returned (.tuple #[.agg #[.int .i64 z0,.int .i64 z1,.slice p lz.length c,.int .i64 z3,.int .i64 z4],.int .i64 E]) ∧ Below w.heap.size w w' ∧ ((x = -9223372036854775808 ∧ E = 10) ∨ (x ≠ -9223372036854775808 ∧ E = 0 ∧ OW x ⟨z0,z1,lz,z3,z4⟩)) ∧
  w'.ownsRow w.heap.size 27 1 (.slice p lz.length c) lz.length (lz.map (Value.int .u32))
def ORP (x:Nat) (w:World) (e:Ending) (w':World):Prop :=
 ∃ (lz:List Int) (p:Option Addr) (c:Nat),e = .returned (.agg #[.slice p lz.length c,.float .f64 x,.float .f64 x]) ∧ Below w.heap.size w w' ∧ OR x ⟨lz,x,x⟩ ∧
  w'.ownsRow w.heap.size 5 1 (.slice p lz.length c) lz.length (lz.map (Value.int .u8))
set_option maxHeartbeats 4000000 in
theorem zqqw (w:World) (x:Int) (hx:I64 x):Calls Tryz.prog 42 #[.int .i64 x] w (OWP x w):=by
 have HA:=zh (fun w1 => zqy7 x hx.1 hx.2 w1)
 have HO:=zh (fun w1 => zqo0 (x.natAbs:Int) (by omega) (by have:=hx.1; have:=hx.2; omega) w1)
 have HM:=zh (fun w1 u a (h:WList w1 u a) (hl:a.length ≤ 2) => zqxj u u a a w1 h h (by omega) (by omega))
 have hab:x = -9223372036854775808 ∧ (x.natAbs:Int) = 9223372036854775808 ∨ x ≠ -9223372036854775808 ∧ (x.natAbs:Int) ≤ 9223372036854775807:=by have:=hx.1; have:=hx.2; omega
 have hsq:=zh (show (x.natAbs:Int) * (x.natAbs:Int) = x * x by rw [Int.natAbs_mul_self'])
 have HZ:=zh (show (w.alloc (.cells #[.int .i64 0,.int .i64 0,.slice none 0 0,.int .i64 0,.int .i64 0] 45)).heap[w.heap.size]? = some (.cells #[.int .i64 0,.int .i64 0,.slice none 0 0,.int .i64 0,.int .i64 0] 45 (0,0)) from heap_alloc_new w _);have HB:=zh (zqab w (.cells #[.int .i64 0,.int .i64 0,.slice none 0 0,.int .i64 0,.int .i64 0] 45));have h0:(0:Int) ≤ (x.natAbs:Int):=by omega
 unfold OWP;unfold Fresh at HO HM;have HO5:=zh (fun (z:Wh) (h1:z.sum = x) (h2:z.abs = (x.natAbs:Int)) h3 h4 h5 h6 h7 => (⟨h1,h2,h3,h4,h5,h6,h7⟩:OW x z))
 generalize OW x = OWx at *;generalize hA:(x.natAbs:Int) = A at *;clear hx hA;go_enter Tryz.func42,Tryz.ntmps42;go_upto_region 1 with fail;generalize w.alloc (.cells #[.int .i64 0,.int .i64 0,.slice none 0 0,.int .i64 0,.int .i64 0] 45) = W at *;obtain ⟨e0,e1,e2,e3,e4⟩:=row5 HZ.out;have zf:=zqbm HZ.out;have hlt:w.heap.size < W.heap.size:=(Array.getElem?_eq_some_iff.1 HZ.out).1;go_wp2_with fail;refine (HA.out _).mono ?_; rintro e w1 ⟨rfl,rfl⟩;rcases hab with ⟨hx,rfl⟩ | ⟨hx,hA⟩
 ·have HB9:=zh (zqch (R:=w.heap.size) (a:=.int .i64 0) (b:=.int .i64 0) (c:=.slice none 0 0) (d:=.int .i64 0) (e:=.int .i64 0) HB.out (Nat.le_refl _));have HZ9:=zh (zqei (a:=.int .i64 0) (b:=.int .i64 0) (c:=.slice none 0 0) (d:=.int .i64 0) (e:=.int .i64 0) HZ.out);clear HA HO HM hsq HO5;go_wp2_with fail;unfold set5 at HB9 HZ9;obtain ⟨r0,r1,r2,r3,r4⟩:=row5 HZ9.out;exact bodyPost_ret (v:=.tuple #[.agg #[.int .i64 0,.int .i64 0,.slice none 0 0,.int .i64 0,.int .i64 0],.int .i64 10]) (by simp [results,Tryz.results42,go_sem,r0,r1,r2,r3,r4]) rfl ⟨0,0,[],0,0,none,0,10,rfl,HB9.out,.inl ⟨hx,rfl⟩,zqj6 _ _⟩
 ·have hg:decide (A > 9223372036854775807) = false:=decide_eq_false (by omega)
  have i1:IntKind.i64.wrap A = A:=IntWalk.i64_in _ (by omega)
  have i1':wrap64 A = A:=wrap64_in (by omega) (by omega)
  have HBS:=zh (fun w2 (hb:Below W.heap.size W w2) => HB.out.trans (hb.mono HB.out.size))
  clear HA e0 e1 e2 e3 e4 zf;go_wp2_with fail;refine (HO.out _).mono ?_; rintro e w2 ⟨u,a,rfl,g1,g2,g3,g4,g5,g6⟩;have HWL:=zh (zqbg g1 g2 (by omega))
  have HM2:=zh (HM.out _ _ _ HWL.out g5);rw [g4,hsq.out] at HM2;have HW2:=zh g6;obtain ⟨p,c,rfl⟩:=zqag g1;clear g1 g2 g3 g4 g5 g6 HO HM;go_wp2_with fail;refine (HM2.out).mono ?_; rintro e w3 ⟨v,l,rfl,g1,g2,g3,g4,g5,g6⟩;have hb3:=zqaa HW2.out g6;have hz3:=(hb3.block _ hlt).trans HZ.out;obtain ⟨q,d,rfl⟩:=zqag g1;have hB:=zqch (R:=w.heap.size) (a:=.int .i64 x) (b:=.int .i64 A) (c:=.slice q l.length d) (d:=.int .i64 x) (e:=.int .i64 x) (HBS.out _ hb3) (Nat.le_refl _);have hZ:=zqei (a:=.int .i64 x) (b:=.int .i64 A) (c:=.slice q l.length d) (d:=.int .i64 x) (e:=.int .i64 x) hz3;have hO:=zqig (a:=.int .i64 x) (b:=.int .i64 A) (c:=.slice q l.length d) (d:=.int .i64 x) (e:=.int .i64 x) hz3 (by decide) (zqaw g1 (B':=w.heap.size) (HBS.out _ HW2.out).size)
  unfold set5 at hB hZ hO;have HB9:=zh hB;have HZ9:=zh hZ;have HO9:=zh hO;have HG:=zh (HO5.out ⟨x,A,l,x,x⟩ rfl rfl g2 g3 g4 rfl rfl);obtain ⟨e0,e1,e2,e3,e4⟩:=row5 hz3;have zf:=zqbm hz3;clear hB hZ hO g1 g2 g3 g4 g5 g6 hb3 hz3 HM2 HO5;go_wp2_with fail;obtain ⟨r0,r1,r2,r3,r4⟩:=row5 HZ9.out;exact bodyPost_ret (v:=.tuple #[.agg #[.int .i64 x,.int .i64 A,.slice q l.length d,.int .i64 x,.int .i64 x],.int .i64 0]) (by simp [results,Tryz.results42,go_sem,r0,r1,r2,r3,r4]) rfl ⟨_,_,_,_,_,_,_,0,rfl,HB9.out,.inr ⟨hx,rfl,HG.out⟩,HO9.out⟩
set_option maxHeartbeats 4000000 in
theorem zqt7 (w:World) (x:Nat) (hx:W64 x) (hT:Tab w) (hT2:Tab64 w):Calls Tryz.prog 43 #[.float .f64 x] w (ORP x w):=by
 have hf:Fits (0 + unitsI x):=(Fewer.zero.add (zqkt x hx)).fits (by decide)
 have HA:=zh (fun w1 N (hs:SumAt w1 N 0 0) (ht:Tab64 w1) => zqx2 w1 N 0 x 0 hs hx ht hf)
 rw [Nat.zero_or,Int.zero_add] at HA;have hsf:=fun (w:World) (a:Addr) (m:Mode) (k:Nat) => zqba (P:=Tryz.prog) (w:=w) (a:=a) (m:=m) k
 have HZ:=zh (show (w.alloc (.cells #[.slice none 0 0,.float .f64 0,.float .f64 0] 48)).heap[w.heap.size]? = some (.cells #[.slice none 0 0,.float .f64 0,.float .f64 0] 48 (0,0)) from heap_alloc_new w _);have HB:=zh (zqab w (.cells #[.slice none 0 0,.float .f64 0,.float .f64 0] 48));have HTb:=zh (fun w1 (h:Below w.heap.size w w1) => And.intro (hT.call h) (hT2.call h))
 have HO5:=zh (fun (l:List Int) (h1:IsEnc (flagN x) (unitsI x) l) => (⟨h1,rfl,rfl⟩:OR x ⟨l,x,x⟩))
 unfold ORP;unfold JoinP at HA;generalize OR x = ORx at *;generalize flagN x = fx at *;generalize unitsI x = ux at *;clear hT hT2 hf hx;go_enter Tryz.func43,Tryz.ntmps43;go_upto_region 1 with fail;generalize w.alloc (.cells #[.slice none 0 0,.float .f64 0,.float .f64 0] 48) = W at *;have hlt:w.heap.size < W.heap.size:=(Array.getElem?_eq_some_iff.1 HZ.out).1;go_wp2_with fail;refine (zqip _).mono ?_; rintro e w1 ⟨rfl,rfl⟩;have HW1:=zh (zqab W (.cells #[.slice none 0 0,.bool false,.int .u8 0,.bool true] 174));have HS1:=zh (zq0r W);have hN1:W.heap.size < (W.alloc (.cells #[.slice none 0 0,.bool false,.int .u8 0,.bool true] 174)).heap.size:=by simp
 generalize W.alloc (.cells #[.slice none 0 0,.bool false,.int .u8 0,.bool true] 174) = W1 at *;have HA1:=zh (HA.out W1 _ HS1.out (HTb.out _ (HB.out.trans (HW1.out.mono HB.out.size))).2);clear HA;go_wp2_with fail;refine (HA1.out).mono ?_; rintro e w2 ⟨rfl,hs2,hg⟩;have HW2:=zh (HW1.out.trans (zqiz hg (Nat.le_refl _) hN1));obtain ⟨l,hl⟩:=hs2.enc;have HB2:=zh (HB.out.trans (HW2.out.mono HB.out.size));have HBy:=zh (zqjb w2 W.heap.size _ _ l hs2 hl (HTb.out _ HB2.out).1);have HG:=zh (HO5.out l hl);unfold BytesP5 at HBy;clear hs2 hg hl HA1 HS1 HO5;go_wp2_with fail;refine (HBy.out).mono ?_; rintro e w3 ⟨⟨v,rfl,ho⟩,hb⟩;have hb3:=HW2.out.trans (hb.mono HW2.out.size);have hz3:=(hb3.block _ hlt).trans HZ.out;obtain ⟨q,d,rfl⟩:=zqag ho;have hB:=zqcg (R:=w.heap.size) (a:=.slice q l.length d) (b:=.float .f64 x) (c:=.float .f64 x) (HB.out.trans (hb3.mono HB.out.size)) (Nat.le_refl _);have hZ:=zqeh (a:=.slice q l.length d) (b:=.float .f64 x) (c:=.float .f64 x) hz3;have hO:=zqif (a:=.slice q l.length d) (b:=.float .f64 x) (c:=.float .f64 x) hz3 (by decide) (zqaw ho (B':=w.heap.size) HB2.out.size)
 unfold set3 at hB hZ hO;have HB9:=zh hB;have HZ9:=zh hZ;have HO9:=zh hO;obtain ⟨e0,e1,e2⟩:=row3 hz3;have zf:=zqbm hz3;clear hB hZ hO hb hb3 hz3 ho HBy;go_wp2_with fail;obtain ⟨r0,r1,r2⟩:=row3 HZ9.out;exact bodyPost_ret (v:=.agg #[.slice q l.length d,.float .f64 x,.float .f64 x]) (by simp [results,Tryz.results43,go_sem,r0,r1,r2]) rfl ⟨_,_,_,rfl,HB9.out,HG.out,HO9.out⟩
end Go.Proofs.YtafmghloohhaeaaGreatDoor
namespace Go.Proofs.YtafmghloohhaeaaGreatDoor
set_option maxRecDepth 100000
open Go.ChangeShapes Go.WideShapes Go.ChangeAt Go.RowKit Go.Deep
set_option linter.unusedVariables false
section
variable {H : Type} {enc : TypeId × Value → H} {w : World} {base : Nat} {spare : Nat → Bool} {held : Bool}
theorem zqmm {fuel:Nat} {k:IntKind} {v:Value} {x:DataW H × List MemPlace} {T E:TypeId} (hT:Tryz.prog.underlying T = some (.slice E)) (hE:Tryz.prog.underlying E = some (.int k)) (h1:Tryz.prog.cellsOf E = 1)
  (h:DataW.trod enc Tryz.prog w base spare held fuel T [v] = some x) :
  ∃ vs,Ints k w v vs ∧ (∀ d ∈ vs,(Lit.int k d).wf = true) ∧ vs.length ≤ 9223372036854775807:=by
 rcases open_ints hT hE h1 h with ⟨hcs,_⟩ | ⟨x,l,c,zs,hcs,_,hl,hm,hz,_,hcell,hwz⟩
 ·obtain rfl:v = .slice none 0 0:=by simpa using hcs
  exact ⟨[],⟨none,0,rfl,by simp,.inl rfl⟩,(fun _ h => by cases h),by simp⟩
 ·obtain rfl:v = .slice (some x) l c:=by simpa using hcs
  have hlz:l ≤ zs.length:=by rw [hz]; split <;> omega
  have ht:(zs.take l).length = l:=by rw [List.length_take]; omega
  refine ⟨zs.take l,⟨some x,c,by rw [ht],by omega,?_⟩,fun n hn => hwz n (List.mem_of_mem_take hn),by rw [ht]; unfold maxLen at hm; omega⟩
  by_cases h0:l = 0
  ·subst h0; exact .inl (by simp)
  ·refine .inr ?_;obtain ⟨b,off,spot⟩:=x;have hc:=hcell 0 (by omega)
   have hspot:spot = none:=by simpa [Addr.add] using World.cell?_spot hc
   subst hspot;refine ⟨b,off,rfl,World.block_lt_of_cell? w _ hc,fun i hi => ?_⟩
   rw [ht] at hi;have e:(zs.take l).getD i 0 = zs.getD i 0:=by simp [List.getD,hi]
   rw [e];have hh:=hcell i (by omega)
   by_cases h0:i = 0
   ·subst h0; simpa [Addr.add] using hh
   ·simpa [Addr.add,h0] using hh
theorem zqm1 {α:Type} {fuel n:Nat} {v:Value} {x:DataW H × List MemPlace} {T E:TypeId} (R:α → List Value → Prop) (a0:α) (hn:0 < n) (hT:Tryz.prog.underlying T = some (.slice E)) (hc:Tryz.prog.cellsOf E = n)
  (hr:∀ {fuel:Nat} {cs:List Value} {x:DataW H × List MemPlace},DataW.trod enc Tryz.prog w base spare held fuel E cs = some x → ∃ a,R a cs ∧ cs.length = n)
  (h:DataW.trod enc Tryz.prog w base spare held fuel T [v] = some x) :
  ∃ (l:List α) (a:Option Addr) (cap:Nat),v = .slice a l.length cap ∧ l.length ≤ cap ∧ l.length ≤ 9223372036854775807 ∧ (∀ y ∈ l,∃ cs,R y cs) ∧ (l = [] ∨ ∃ b off,a = some ⟨b,off,none⟩ ∧ b < w.heap.size ∧ ∀ i (hi:i < l.length),∃ cs,R l[i] cs ∧ ∀ j,j < n → w.cell? ⟨b,off + i * n + j,none⟩ = cs[j]?):=by
 rcases open_slice hT h with ⟨hv,-⟩ | ⟨a,len,cap,m,nn,Dx,Pl,hv,-,hl,hcm,hmm,-,hi⟩
 ·obtain rfl:v = .slice none 0 0:=by simpa using hv
  exact ⟨[],none,0,rfl,by simp,by simp,fun _ h => by (cases h),.inl rfl⟩
 ·obtain rfl:v = .slice (some a) len cap:=by simpa using hv
  have hlm:len ≤ m:=by rw [hmm]; split <;> omega
  have hq:∀ k,∃ f:α,k < len → ∃ cs,(∀ j,j < n → w.cell? ((a.add (k * n)).add j) = cs[j]?) ∧ R f cs ∧ cs.length = n:=by
   intro k
   by_cases hk:k < len
   ·obtain ⟨cs',hc',ht⟩:=hi k (by omega)
    obtain ⟨f,hf,hlen⟩:=hr ht;rw [hc] at hc';obtain ⟨-,-,hat⟩:=World.cells?_some hc';exact ⟨f,fun _ => ⟨cs',hat,hf,hlen⟩⟩
   ·exact ⟨a0,fun h => absurd h hk⟩
  obtain ⟨q,hq⟩:=Classical.axiomOfChoice hq;have hle:((List.range len).map q).length = len:=by simp
  have hget:∀ k (h:k < ((List.range len).map q).length),((List.range len).map q)[k] = q k:=fun k hk => by simp
  refine ⟨(List.range len).map q,some a,cap,by rw [hle],by rw [hle]; exact hl,by rw [hle]; unfold maxLen at hcm; omega,fun y hy => ?_,?_⟩
  ·obtain ⟨k,hk,rfl⟩:=List.getElem_of_mem hy;obtain ⟨cs,-,h3,-⟩:=hq k (by rw [hle] at hk; exact hk)
   rw [hget k hk];exact ⟨cs,h3⟩
  ·by_cases h0:len = 0
   ·exact .inl (by subst h0; rfl)
   ·refine .inr ?_;obtain ⟨b,off,spot⟩:=a;obtain ⟨cs,hcc,-,hlen⟩:=hq 0 (by omega)
    have hc0:=hcc 0 hn;have hsome:∃ u,cs[0]? = some u:=⟨cs[0],by rw [List.getElem?_eq_getElem]⟩
    obtain ⟨u,hu⟩:=hsome;rw [hu] at hc0;have hspot:spot = none:=by simpa [Addr.add] using World.cell?_spot hc0
    subst hspot;refine ⟨b,off,rfl,by simpa [Addr.add] using World.block_lt_of_cell? w _ hc0,fun k hk => ?_⟩
    obtain ⟨cs,hh,h3,-⟩:=hq k (by rw [hle] at hk; exact hk)
    have ha:(⟨b,off,none⟩:Addr).add (k * n) = ⟨b,off + k * n,none⟩:=by
     by_cases k0:k = 0
     ·subst k0; simp [Addr.add]
     ·have k6:¬ k * n = 0:=by simp [Nat.mul_eq_zero]; omega
      simp only [Addr.add,if_neg k6]
    rw [ha] at hh;refine ⟨cs,by rw [hget k hk]; exact h3,fun j hj => ?_⟩
    have:=hh j hj;have hb:(⟨b,off + k * n,none⟩:Addr).add j = ⟨b,off + k * n + j,none⟩:=by
     by_cases k0:j = 0
     ·subst k0; simp [Addr.add]
     ·simp only [Addr.add,if_neg k0]
    rw [hb] at this;exact this
end
end Go.Proofs.YtafmghloohhaeaaGreatDoor
namespace Go.Proofs.YtafmghloohhaeaaGreatDoor
set_option maxRecDepth 100000
open Go.RowKit
set_option linter.unusedVariables false
def keyG (d c:Nat → Int) (p:Nat → Bool):Nat → Int
 | 0 => 0
 | k + 1 => if p k = true then keyG d c p k * d k + c k else keyG d c p k
def numG (d:Nat → Int) (p:Nat → Bool):Nat → Int
 | 0 => 1
 | k + 1 => if p k = true then numG d p k * d k else numG d p k
def tailG (d:Nat → Int) (p:Nat → Bool) (i:Nat):Nat → Int
 | 0 => 1
 | j + 1 => if p (i + j) = true then tailG d p i j * d (i + j) else tailG d p i j
theorem zqli (d:Nat → Int) (p:Nat → Bool):∀ n,tailG d p 0 n = numG d p n
 | 0 => rfl
 | n + 1 => by
  unfold tailG numG;rw [zqli d p n,Nat.zero_add]
theorem zqg3 {d:Nat → Int} {p:Nat → Bool} {n i:Nat} (hd:∀ k,k < n → 1 ≤ d k):∀ j,i + j ≤ n → 1 ≤ tailG d p i j
 | 0,_ => by simp [tailG]
 | j + 1,h => by
  have h1:=zqg3 (p:=p) (i:=i) hd j (by omega)
  have h2:=hd (i + j) (by omega)
  unfold tailG
  split
  ·have:=Int.mul_le_mul h1 h2 (by omega) (by omega)
   omega
  ·exact h1
theorem zqjm (d:Nat → Int) (p:Nat → Bool) (i:Nat):∀ j,tailG d p i (j + 1) = (if p i = true then d i else 1) * tailG d p (i + 1) j
 | 0 => by
  simp only [tailG,Nat.add_zero]
  split <;> simp
 | j + 1 => by
  rw [tailG,zqjm d p i j];show _ = (if p i = true then d i else 1) * (if p (i + 1 + j) = true then tailG d p (i + 1) j * d (i + 1 + j) else tailG d p (i + 1) j)
  have e:i + (j + 1) = i + 1 + j:=by omega
  rw [e]
  split
  ·rw [Int.mul_assoc]
  ·rfl
def InG (d c:Nat → Int) (p:Nat → Bool) (n:Nat):Prop:=∀ k,k < n → p k = true → 0 ≤ c k ∧ c k < d k
theorem zqfu {d c:Nat → Int} {p:Nat → Bool} {n i:Nat} (hd:∀ k,k < n → 1 ≤ d k) (hc:InG d c p n):∀ j,i + j ≤ n → ∃ r,0 ≤ r ∧ r < tailG d p i j ∧ keyG d c p (i + j) = keyG d c p i * tailG d p i j + r
 | 0,_ => ⟨0,by simp,by simp [tailG],by simp [tailG]⟩
 | j + 1,h => by
  obtain ⟨r,h0,h1,h2⟩:=zqfu (i:=i) hd hc j (by omega)
  have hdj:=hd (i + j) (by omega)
  have eT:tailG d p i (j + 1) = if p (i + j) = true then tailG d p i j * d (i + j) else tailG d p i j:=rfl
  have eK:keyG d c p (i + (j + 1)) = if p (i + j) = true then keyG d c p (i + j) * d (i + j) + c (i + j) else keyG d c p (i + j):=rfl
  rw [eT,eK]
  by_cases hp:p (i + j) = true
  ·obtain ⟨c0,c1⟩:=hc (i + j) (by omega) hp
   simp only [if_pos hp];refine ⟨r * d (i + j) + c (i + j),?_,?_,?_⟩
   ·have:=Int.mul_nonneg h0 (show 0 ≤ d (i + j) by omega)
    omega
   ·have h3:(r + 1) * d (i + j) ≤ tailG d p i j * d (i + j):=Int.mul_le_mul_of_nonneg_right (by omega) (by omega)
    rw [Int.add_mul,Int.one_mul] at h3;omega
   ·rw [h2,Int.add_mul,Int.mul_assoc,Int.add_assoc]
  ·simp only [if_neg hp];exact ⟨r,h0,h1,h2⟩
theorem zqqo {d c:Nat → Int} {p:Nat → Bool} {n:Nat} (hd:∀ k,k < n → 1 ≤ d k) (hc:InG d c p n):0 ≤ keyG d c p n ∧ keyG d c p n < numG d p n:=by
 obtain ⟨r,h0,h1,h2⟩:=zqfu (i:=0) hd hc n (by omega)
 rw [Nat.zero_add] at h2;rw [zqli] at h1;have e:keyG d c p 0 = 0:=rfl;rw [e,Int.zero_mul] at h2;omega
theorem zqp3 {q A T r:Int} (h:q = A * T + r) (h0:0 ≤ r) (h1:r < T):q / T = A:=by
 have hT:T ≠ 0:=by omega
 rw [h,Int.add_comm,Int.add_mul_ediv_right _ _ hT,Int.ediv_eq_zero_of_lt h0 h1,Int.zero_add]
theorem zqqt {q A T r:Int} (h:q = A * T + r) (h0:0 ≤ r) (h1:r < T):q % T = r:=by
 rw [h,Int.add_comm,Int.add_mul_emod_self_right];exact Int.emod_eq_of_lt h0 h1
def codG (d:Nat → Int) (p:Nat → Bool) (n:Nat) (q:Int) (i:Nat):Int:=if p i = true then q / tailG d p (i + 1) (n - i - 1) % d i else -1
theorem zq1z {d c:Nat → Int} {p:Nat → Bool} {n:Nat} (hd:∀ k,k < n → 1 ≤ d k) (hc:InG d c p n) {i:Nat} (hi:i < n) (hp:p i = true):codG d p n (keyG d c p n) i = c i:=by
 obtain ⟨r,h0,h1,h2⟩:=zqfu (i:=i + 1) hd hc (n - i - 1) (by omega)
 have e:i + 1 + (n - i - 1) = n:=by omega
 rw [e] at h2;unfold codG;rw [if_pos hp,zqp3 h2 h0 h1];obtain ⟨c0,c1⟩:=hc i hi hp;have h3:keyG d c p (i + 1) = keyG d c p i * d i + c i:=by
  show (if p i = true then _ else _) = _
  rw [if_pos hp]
 exact zqqt h3 c0 c1
theorem zqrc {d:Nat → Int} {p:Nat → Bool} {n:Nat} (hd:∀ k,k < n → 1 ≤ d k) (q:Int) {i:Nat} (hi:i < n):q / tailG d p i (n - i) = if p i = true then q / tailG d p (i + 1) (n - (i + 1)) / d i else q / tailG d p (i + 1) (n - (i + 1)):=by
 have ht:=zqg3 (p:=p) (i:=i + 1) hd (n - i - 1) (by omega)
 have e:n - i = n - i - 1 + 1:=by omega
 have e2:n - (i + 1) = n - i - 1:=by omega
 rw [e2,e,zqjm]
 split
 ·rw [Int.mul_comm (d i),← Int.ediv_ediv_of_nonneg (by omega)]
  rfl
 ·rw [Int.one_mul]
  rfl
def bitG (m:Int) (k:Nat):Bool:=decide (m / 2 ^ k % 2 = 1)
theorem zqms (ds:List (ByteArray × Int)) (m:Int):∀ n,keysL ds m n = numG (dz ds) (bitG m) n
 | 0 => rfl
 | n + 1 => by
  have ih:=zqms ds m n;unfold keysL numG bitG;rw [ih]
  by_cases h:m / 2 ^ n % 2 = 1
  ·rw [if_pos h,if_pos (decide_eq_true h)]; rfl
  ·rw [if_neg h,if_neg (by rw [decide_eq_false h]; decide)]; rfl
theorem zqg0 {ds:List (ByteArray × Int)} (h:sizB ds = true):∀ k,k < ds.length → 1 ≤ dz ds k:=fun k hk => (zqcy h hk).1
def numE (S:Sc) (m:Int):Nat:=if checkL S = 0 then if m ≤ fullL S.ds then 0 else 11 else 1
theorem zqj3 {S:Sc} {m:Int} (h:numE S m = 0):checkL S = 0 ∧ m ≤ fullL S.ds:=by
 unfold numE at h
 split at h
 ·rename_i h1
  split at h
  ·rename_i h2; exact ⟨h1,h2⟩
  ·cases h
 ·cases h
theorem zqhm (w:World) (D I M V:Value) (S:Sc) (m:Int) (h:Sch4 w D I M V S) (hw:SWf S) (m0:0 ≤ m) (m1:m ≤ 4294967295) :
  Calls Tryz.prog 58 #[SchV D I M V,.int .u32 m] w fun e w' => e = .returned (.tuple #[.int .u64 (if numE S m = 0 then keysL S.ds m S.ds.length else 0),.int .i64 (numE S m)]) ∧ Below w.heap.size w w':=by
 have HB0:=zh (zqab w (SchO D I M V));have HX:=zh (zqa7 w D I M V);have HK:=zh (fun w1 (hb:Below w.heap.size w w1) => zqmr w1 D I M V S m (h.below hb) hw m0 m1)
 have HC:=zh (fun w1 (hb:Below w.heap.size w w1) => zqgb w1 D I M V S (h.below hb) hw)
 obtain ⟨⟨a,c,rfl⟩,⟨a2,c2,rfl⟩,⟨a3,c3,rfl⟩,a4,c4,rfl⟩:=h.slices;clear h hw
 by_cases hx:checkL S = 0 ∧ m ≤ fullL S.ds
 ·have hn:numE S m = 0:=by unfold numE; rw [if_pos hx.1,if_pos hx.2]
  rw [if_pos hx,decide_eq_true hx] at HK;rw [hn,if_pos rfl];generalize keysL S.ds m S.ds.length = ky at *;clear hx hn HC;go_enter Tryz.func58,Tryz.ntmps58;go_wp2_with fail;refine (HK.out _ HB0.out).mono ?_; rintro e w1 ⟨rfl,hb⟩;have HB1:=zh (zqaa HB0.out hb);clear hb;go_wp2_with fail;exact bodyPost_ret (v:=.tuple #[.int .u64 ky,.int .i64 0]) (by simp [results,Tryz.results58,go_sem]) rfl ⟨rfl,HB1.out⟩
 ·rw [if_neg hx,decide_eq_false hx] at HK;have hk:checkL S = 0 ∧ numE S m = 11 ∨ ((checkL S:Int) != 0) = true ∧ numE S m = 1:=by
   unfold numE
   by_cases h1:checkL S = 0
   ·rw [if_pos h1,if_neg (fun h2 => hx ⟨h1,h2⟩)]; exact .inl ⟨h1,rfl⟩
   ·rw [if_neg h1]; exact .inr ⟨by simp; omega,rfl⟩
  clear hx;rcases hk with ⟨h1,h2⟩ | ⟨h1,h2⟩
  ·rw [h1] at HC;rw [h2,if_neg (by decide)]
   clear h1 h2;go_enter Tryz.func58,Tryz.ntmps58;go_wp2_with fail;refine (HK.out _ HB0.out).mono ?_; rintro e w1 ⟨rfl,hb⟩;have HB1:=zh (zqaa HB0.out hb);obtain ⟨x0,x1,x2,x3⟩:=(HX.out.below hb).reads;clear hb;go_wp2_with fail;refine (HC.out _ HB1.out).mono ?_; rintro e w2 ⟨rfl,hb⟩;have HB2:=zh (zqaa HB1.out hb);clear hb;go_wp2_with fail;exact bodyPost_ret (v:=.tuple #[.int .u64 0,.int .i64 11]) (by simp [results,Tryz.results58,go_sem]) rfl ⟨rfl,HB2.out⟩
  ·rw [h2,if_neg (by decide)]
   generalize (checkL S:Int) = ck at *;clear h2;go_enter Tryz.func58,Tryz.ntmps58;go_wp2_with fail;refine (HK.out _ HB0.out).mono ?_; rintro e w1 ⟨rfl,hb⟩;have HB1:=zh (zqaa HB0.out hb);obtain ⟨x0,x1,x2,x3⟩:=(HX.out.below hb).reads;clear hb;go_wp2_with fail;refine (HC.out _ HB1.out).mono ?_; rintro e w2 ⟨rfl,hb⟩;have HB2:=zh (zqaa HB1.out hb);clear hb;go_wp2_with fail;exact bodyPost_ret (v:=.tuple #[.int .u64 0,.int .i64 1]) (by simp [results,Tryz.results58,go_sem]) rfl ⟨rfl,HB2.out⟩
theorem zqib (w:World) (m:Int) (n:Nat) (hn:n ≤ 31) (m0:0 ≤ m) (m1:m ≤ 4294967295) :
  Calls Tryz.prog 82 #[.int .u32 m,.int .i64 n] w fun e w' => e = .returned (.bool (bitG m n)) ∧ w = w':=by
 have hb1:(bits .and .u32 (m / 2 ^ n) 1 == 1) = bitG m n:=by
  exact zqkh (zqdq m0 m1 n).1 (zqdq m0 m1 n).2
 have HE:=zh hb1;clear hb1;go_enter Tryz.func82,Tryz.ntmps82;go_wp2_with fail;go_ret;exact ⟨congrArg (fun b => Ending.returned (.bool b)) HE.out,rfl⟩
def cz (l:List Int) (k:Nat):Int:=l.getD k 0
theorem zqmq {ds:List (ByteArray × Int)} {c:Nat → Int} {m:Int} (hz:sizB ds = true) (hc:InG (dz ds) c (bitG m) ds.length):∀ k,k ≤ ds.length → 0 ≤ keyG (dz ds) c (bitG m) k ∧ keyG (dz ds) c (bitG m) k ≤ 1099511627776:=fun k hk => by
 have h1:=zqqo (n:=k) (fun j hj => zqg0 hz j (by omega)) (fun j hj hp => hc j (by omega) hp)
 have h2:=zqd1 m hz k hk;have h3:=zqef hz k hk;rw [← zqms] at h1;omega
set_option maxHeartbeats 4000000 in
theorem zqto (w:World) (D u:Value) (ds:List (ByteArray × Int)) (m:Int) (l:List Int) (h:Dims w D ds) (hu:Ints .i64 w u l) (hn:ds.length ≤ 31) (hl:l.length = ds.length) (hz:sizB ds = true) (hc:InG (dz ds) (cz l) (bitG m) ds.length) (m0:0 ≤ m) (m1:m ≤ 4294967295) :
  Calls Tryz.prog 83 #[D,.int .u32 m,u] w fun e w' => e = .returned (.int .u64 (keyG (dz ds) (cz l) (bitG m) ds.length)) ∧ Below w.heap.size w w':=by
 obtain ⟨a,cap,rfl,h1,h2,h3⟩:=h;obtain ⟨pu,cu,rfl,hcu,-⟩:=id hu;have HU:=zh hu;have HC:=zh h3;have HI:=zh hc;have HKn:=zh (fun k => show keyG (dz ds) (cz l) (bitG m) (k + 1) = if bitG m k = true then keyG (dz ds) (cz l) (bitG m) k * dz ds k + cz l k else keyG (dz ds) (cz l) (bitG m) k from rfl)
 have HR:=zh (zqmq hz hc);have HZ:=zh (fun k (hk:k < ds.length) => zqcy hz hk)
 have HH:=zh (fun w k hk => zqib w m k hk m0 m1)
 rw [hl];clear hu h3 hc hz;go_enter Tryz.func83,Tryz.ntmps83;go_wp2_with fail;go_loopw [7,12] (fun pv i wr => ∃ k:Nat,k ≤ ds.length ∧ i = .int .i64 k ∧ (∃ p:Int,pv = .int .u64 p ∧ 0 ≤ p ∧ p ≤ 1099511627776 ∧ Hid (p = keyG (dz ds) (cz l) (bitG m) k)) ∧ Hid (Below w.heap.size w wr)) (fun _ i _ => ds.length - (intOf i).toNat)
 case atStart => exact ⟨0,Nat.zero_le _,rfl,⟨0,rfl,by decide,by decide,zh rfl⟩,zh (Below.refl _ _)⟩
 case round =>
  obtain ⟨k,hk,rfl,⟨p,rfl,hp0,hp1,HE⟩,HB⟩:=hrel
  by_cases hlk:k < ds.length
  ·rcases HC.out with h3 | ⟨b,off,rfl,hlt,hcell⟩
   ·rw [h3] at hlk; simp at hlk
   obtain ⟨c0,c1⟩:=hcell k hlk;have c0:wr.cell? ⟨b,off + k * 2,none⟩ = _:=(HB.out.cell (p:=⟨b,off + k * 2,none⟩) hlt).trans c0;have c1:wr.cell? ⟨b,off + k * 2 + 1,none⟩ = _:=(HB.out.cell (p:=⟨b,off + k * 2 + 1,none⟩) hlt).trans c1;obtain ⟨b2,o2,hp2,hb2,hc2⟩:=HU.out.cell (i:=k) (by omega)
   subst hp2;have hc2:=cell_later HB.out hc2;have hc2:wr.cell? ⟨b2,o2 + k,none⟩ = some (.int .i64 (cz l k)):=hc2;have HKk:=zh (HKn.out k);have hz:=HZ.out k hlk;have hr:=HR.out (k + 1) (by omega)
   have hI:=HI.out k hlk;have hBs:=HB.out.size;have HB1:=zh (HB.out.alloc hBs (.cells #[.string (dn ds k),.int .i64 (dz ds k)] 50));have HHk:=zh (fun w => HH.out w k (by omega))
   have hle:Hid (k + 1 ≤ ds.length):=zh (by omega)
   rw [← HE.out] at HKk;generalize dn ds k = x at *;generalize dz ds k = z at *;generalize cz l k = y at *;clear hcell
   by_cases hbit:bitG m k = true
   ·obtain ⟨y0,y1⟩:=hI hbit;rw [hbit] at HHk;rw [if_pos hbit] at HKk;have hpz:0 ≤ p * z:=Int.mul_nonneg hp0 (by omega)
    rw [HKk.out] at hr;have i1:IntKind.u64.wrap z = z:=by rw [IntKind.wrap_u64]; omega
    have i2:IntKind.u64.wrap (p * z) = p * z:=by rw [IntKind.wrap_u64]; omega
    have i3:IntKind.u64.wrap y = y:=by rw [IntKind.wrap_u64]; omega
    have i4:IntKind.u64.wrap (p * z + y) = p * z + y:=by rw [IntKind.wrap_u64]; omega
    have HE3:=zh hr;have hb3:=HB.out.size;have hd2:=cell_later (zqab wr (.cells #[.string x,.int .i64 z] 50)) hc2;clear hr hz hpz hI hbit y0 y1;go_wp2_with fail;refine (HHk.out _).mono ?_; rintro e w1 ⟨rfl,rfl⟩;go_upto_region 6 with fail;go_quiet (fail);have HB2:=zh (below_drewN HB1.out nq);go_wp2;go_roundw
    case rel => exact ⟨k + 1,hle.out,by go_num,⟨p * z + y,rfl,HE3.out.1,HE3.out.2,zh HKk.out.symm⟩,HB2⟩
    case measure => simp [intOf]; omega
   ·rw [eq_false_of_ne_true hbit] at HHk;rw [if_neg hbit] at HKk;clear hr hz hI hbit hc2;go_wp2_with fail;refine (HHk.out _).mono ?_; rintro e w1 ⟨rfl,rfl⟩;go_wp2_with fail;go_roundw
    case rel => exact ⟨k + 1,hle.out,by go_num,⟨p,rfl,hp0,hp1,zh HKk.out.symm⟩,HB1⟩
    case measure => simp [intOf]; omega
  ·have:k = ds.length:=by omega
   subst this;have HE2:=zh HE.out;clear HE;go_wp2_with fail;go_ret;rw [HE2.out];exact ⟨rfl,HB.out⟩
end Go.Proofs.YtafmghloohhaeaaGreatDoor
