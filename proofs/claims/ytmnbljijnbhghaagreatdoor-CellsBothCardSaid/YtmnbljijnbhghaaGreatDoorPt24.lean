/- Contracts that the law leans on: Aggl Aggo Opn Scht Scia Schm. -/
import Derived.Deep.CutRange
import Derived.Deep.Slices
import Derived.Deep.Fields
import Derived.ChangeSame
import Derived.ChangeSlices
import Derived.Lib.SmallJoins
import Derived.Lib.Bytealg
import Derived.SliceStrings
import Derived.Test.YtmnbljijnbhghaaGreatDoorPt02
import Derived.Test.YtmnbljijnbhghaaGreatDoorPt05
import Derived.Test.YtmnbljijnbhghaaGreatDoorPt07
import Derived.Test.YtmnbljijnbhghaaGreatDoorPt08
import Derived.Test.YtmnbljijnbhghaaGreatDoorPt09
import Derived.Test.YtmnbljijnbhghaaGreatDoorPt10
import Derived.Test.YtmnbljijnbhghaaGreatDoorPt11
import Derived.Test.YtmnbljijnbhghaaGreatDoorPt18
namespace Go.Proofs.YtmnbljijnbhghaaGreatDoor
set_option maxRecDepth 100000
open Go.RowKit
set_option linter.unusedVariables false
theorem hold10 {w w':World} (hb:Below w.heap.size w w') {p0 p1 p2 p3 p4 p5 p6 p7 p8 p9:Addr} {v0 v1 v2 v3 v4 v5 v6 v7 v8 v9:Value}
  (h:w.cell? p0 = some v0 ∧ w.cell? p1 = some v1 ∧ w.cell? p2 = some v2 ∧ w.cell? p3 = some v3 ∧ w.cell? p4 = some v4 ∧ w.cell? p5 = some v5 ∧ w.cell? p6 = some v6 ∧ w.cell? p7 = some v7 ∧ w.cell? p8 = some v8 ∧ w.cell? p9 = some v9) :
  w'.cell? p0 = some v0 ∧ w'.cell? p1 = some v1 ∧ w'.cell? p2 = some v2 ∧ w'.cell? p3 = some v3 ∧ w'.cell? p4 = some v4 ∧ w'.cell? p5 = some v5 ∧ w'.cell? p6 = some v6 ∧ w'.cell? p7 = some v7 ∧ w'.cell? p8 = some v8 ∧ w'.cell? p9 = some v9:=by
 obtain ⟨h0,h1,h2,h3,h4,h5,h6,h7,h8,h9⟩:=h;exact ⟨cell_later hb h0,cell_later hb h1,cell_later hb h2,cell_later hb h3,cell_later hb h4,cell_later hb h5,cell_later hb h6,cell_later hb h7,cell_later hb h8,cell_later hb h9⟩
theorem JWP.raw {x y:Wh} {w w':World} {e:Ending} (h:JWP x y w e w'):∃ (z0 z1:Int) (lz:List Int) (z3 z4:Int) (p:Option Addr) (c E:Nat),e = .returned (.tuple #[.agg #[.int .i64 z0,.int .i64 z1,.slice p lz.length c,.int .i64 z3,.int .i64 z4],.int .i64 E]) ∧ Below w.heap.size w w' ∧ ((okW x y = false ∧ E = 10) ∨ (okW x y = true ∧ E = 0 ∧ JW x y ⟨z0,z1,lz,z3,z4⟩)) ∧
  w'.ownsRow w.heap.size 27 1 (.slice p lz.length c) lz.length (lz.map (Value.int .u32)):=by
 obtain ⟨⟨z0,z1,lz,z3,z4⟩,q,E,rfl,h1,h2,h3⟩:=h;obtain ⟨p,c,rfl⟩:=zqae h3;exact ⟨z0,z1,lz,z3,z4,p,c,E,rfl,h1,h2,h3⟩
theorem zqm1 {W w2:World} {cs:Array Value} {T:TypeId} (hb:Below (W.alloc (.cells cs T)).drew.heap.size (W.alloc (.cells cs T)).drew w2):w2.heap[W.heap.size]? = some (.cells cs T (0,0)) ∧ Below W.heap.size W w2 :=
 ⟨(hb.block W.heap.size (by simp)).trans (heap_alloc_new W _),zqaa (zqab _ _) (zqaw hb)⟩
theorem zqm2 {W w2:World} {cs:Array Value} {T:TypeId} (hb:Below (W.drew.alloc (.cells cs T)).heap.size (W.drew.alloc (.cells cs T)) w2):w2.heap[W.heap.size]? = some (.cells cs T (0,0)) ∧ Below W.heap.size W w2 :=
 ⟨(hb.block W.heap.size (by simp)).trans (heap_alloc_new W.drew _),zqaw (zqaa (zqab _ _) hb)⟩
def MadeAt14 (T:TypeId) (w:World) (M:Nat) (cs:Array Value) (wx:World):Prop:=wx.heap[M]? = some (.cells cs T (0,0)) ∧ Below w.heap.size w wx ∧ w.heap.size ≤ M
theorem zqjf {T:TypeId} {W w2:World} {cs:Array Value} (hb:Below W.heap.size W w2):MadeAt14 T W w2.heap.size cs (w2.alloc (.cells cs T)):=⟨heap_alloc_new _ _,zqaa hb (zqab _ _),hb.size⟩
theorem zqtl {T:TypeId} {W w2:World} {a b c d e a' b' c' d' e':Value} (hM:w2.heap[W.heap.size]? = some (.cells #[a',b',c',d',e'] T (0,0))) (hb:Below W.heap.size W w2):MadeAt14 T W W.heap.size #[a,b,c,d,e] (set5 w2 W.heap.size a b c d e):=⟨zqed hM,zqb3 hb (Nat.le_refl _),Nat.le_refl _⟩
theorem zqtk {T:TypeId} {W w2:World} {a b c a' b' c':Value} (hM:w2.heap[W.heap.size]? = some (.cells #[a',b',c'] T (0,0))) (hb:Below W.heap.size W w2):MadeAt14 T W W.heap.size #[a,b,c] (set3 w2 W.heap.size a b c):=⟨zqec hM,zqb2 hb (Nat.le_refl _),Nat.le_refl _⟩
def EachW (l m:List Wh) (w:World) (e:Ending) (w':World):Prop :=
 Below w.heap.size w w' ∧ (((∃ k,k < l.length ∧ okW (wg l k) (wg m k) = false) ∧ e = .returned (.tuple #[.slice none 0 0,.int .i64 10])) ∨
  ∃ v ps,e = .returned (.tuple #[v,.int .i64 0]) ∧ WsOwn w' w.heap.size v ps ∧ ps.length = l.length ∧ ∀ k,k < l.length → okW (wg l k) (wg m k) = true ∧ JW (wg l k) (wg m k) (wg (ps.map Prod.snd) k))
set_option maxHeartbeats 8000000 in
theorem zqqy (w:World) (u v:Value) (l m:List Wh) (hu:Wholes w u l) (hv:Wholes w v m) (hl:l.length = m.length) (h10:l.length ≤ 10) (hw:∀ x ∈ l,WhW x) (hw':∀ x ∈ m,WhW x) (hs:∀ k,k < l.length → (wg l k).sq.length ≤ 1000 ∧ (wg m k).sq.length ≤ 1000) :
  Calls Tryz.prog 109 #[u,v,.func (.func 110) #[] #[]] w (EachW l m w):=by
 have HU:=zh hu;have HV:=zh hv;have HJ:=zh (fun k (hk:k < l.length) w1 q r (hq:Ints .u32 w1 q (wg l k).sq) (hr:Ints .u32 w1 r (wg m k).sq) => zqqz w1 (wg l k) (wg m k) q r hq hr (by rw [zqaq hk]; exact hw _ (List.getElem_mem _)) (by rw [zqaq (show k < m.length by omega)]; exact hw' _ (List.getElem_mem _)) (hs k hk).1 (hs k hk).2)
 have HL:=zh (And.intro hl h10);obtain ⟨i0,hi,hz0,hz1,hz2⟩:=info_parts Tryz.infoWhole;unfold EachW;obtain ⟨a,c,rfl,-⟩:=hu;obtain ⟨a',c',rfl,-⟩:=hv;clear hl h10 hw hw' hs;go_enter Tryz.func109,Tryz.ntmps109;go_wp2_with fail;go_loopw [8,15] (fun lv iv wr => ∃ (k:Nat) (ps:List (Value × Wh)),k ≤ l.length ∧ iv = .int .i64 k ∧ Hid (ps.length = k ∧ Below w.heap.size w wr ∧ WsOwn wr w.heap.size lv ps ∧ ∀ j,j < k → okW (wg l j) (wg m j) = true ∧ JW (wg l j) (wg m j) (wg (ps.map Prod.snd) j))) (fun _ iv _ => l.length - (intOf iv).toNat)
 case atStart => exact ⟨0,[],Nat.zero_le _,rfl,zh ⟨rfl,Below.refl _ _,WsOwn.nil _ _,fun j hj => by omega⟩⟩
 case round =>
  obtain ⟨k,ps,hk,rfl,HS⟩:=hrel;have hmi:l.length ≤ 9223372036854775807:=by have:=HL.out.2; omega
  by_cases hlk:k < l.length
  ·have hlk':(k:Int) < (l.length:Int):=by omega
   have hkb0:k < m.length:=by have:=HL.out.1; omega
   have hkb:(k:Int) < (m.length:Int):=by omega
   obtain ⟨ba,oa,qa,rfl,hqa⟩:=(HU.out.below HS.out.2.1).at hlk;obtain ⟨bb,ob,qb,rfl,hqb⟩:=(HV.out.below HS.out.2.1).at hkb0;have hle:Hid (k + 1 ≤ l.length):=zh (by omega)
   have HJk:=zh (HJ.out k hlk);have HGd:=zh (fun j (hj:j < k + 1) (ps':List (Value × Wh)) (hp:ps'.length = k) (p:Value × Wh) (hp2:∀ j,j < k → okW (wg l j) (wg m j) = true ∧ JW (wg l j) (wg m j) (wg (ps'.map Prod.snd) j)) (h:okW (wg l k) (wg m k) = true ∧ JW (wg l k) (wg m k) p.2) => show okW (wg l j) (wg m j) = true ∧ JW (wg l j) (wg m j) (wg ((ps' ++ [p]).map Prod.snd) j) from
    if e:j = k then by
     subst e;have e2:wg ((ps' ++ [p]).map Prod.snd) j = p.2:=by rw [zqaq (by simp [hp])]; simp [hp]
     rw [e2]; exact h
    else by
     have e2:wg ((ps' ++ [p]).map Prod.snd) j = wg (ps'.map Prod.snd) j:=by rw [zqaq (by simp [hp]; omega),zqaq (by simp [hp]; omega)]; simp [List.getElem_append_left,hp,show j < k by omega]
     rw [e2]; exact hp2 j (by omega))
   obtain ⟨f0,f1,f2,f3,f4,f5⟩:=hqa;obtain ⟨g0,g1,g2,g3,g4,g5⟩:=hqb;have HF5:=zh (And.intro f5 g5);have HJz:=zh (fun z => show JW (wg l k) (wg m k) z → JW (wg l k) (wg m k) z from id)
   obtain ⟨xx,hxx⟩:∃ xx,wg l k = xx:=⟨_,rfl⟩
   obtain ⟨yy,hyy⟩:∃ yy,wg m k = yy:=⟨_,rfl⟩
   have HXY:=zh (And.intro hxx hyy);rw [hxx] at f0 f1 f3 f4 HJk HF5;rw [hyy] at g0 g1 g3 g4 HJk HF5;clear hxx hyy HJz f5 g5;obtain ⟨x0,x1,lx,x3,x4⟩:=xx;obtain ⟨y0,y1,ly,y3,y4⟩:=yy;have HF6:=zh HF5.out;obtain ⟨⟨pa,pac,rfl,-,-⟩,pb,pbc,rfl,-,-⟩:=HF5.out
   dsimp only at f0 f1 f3 f4 g0 g1 g3 g4 HF6 HJk
   clear HF5;go_upto_region 5 with fail;have hHT0:=zqab wr (.cells #[.int .i64 x0,.int .i64 x1,.slice pa lx.length pac,.int .i64 x3,.int .i64 x4] 85);obtain ⟨hx0,hx1,hx2,hx3,hx4⟩:=row5 (heap_alloc_new wr (.cells #[.int .i64 x0,.int .i64 x1,.slice pa lx.length pac,.int .i64 x3,.int .i64 x4] 85));have hy0:=cell_later hHT0 g0;have hy1:=cell_later hHT0 g1;have hy2:=cell_later hHT0 g2;have hy3:=cell_later hHT0 g3;have hy4:=cell_later hHT0 g4;have hblt:bb < wr.heap.size:=World.block_lt_of_cell? _ _ g0;have HT0:=zh hHT0;have HB0:=zh (HS.out.2.1.trans (HT0.out.mono HS.out.2.1.size));have hk0:(wr.alloc (.cells #[.int .i64 x0,.int .i64 x1,.slice pa lx.length pac,.int .i64 x3,.int .i64 x4] 85)).cell? ⟨wr.heap.size,0,none⟩ = some (.int .i64 x0) ∧ (wr.alloc (.cells #[.int .i64 x0,.int .i64 x1,.slice pa lx.length pac,.int .i64 x3,.int .i64 x4] 85)).cell? ⟨wr.heap.size,1,none⟩ = some (.int .i64 x1) ∧ (wr.alloc (.cells #[.int .i64 x0,.int .i64 x1,.slice pa lx.length pac,.int .i64 x3,.int .i64 x4] 85)).cell? ⟨wr.heap.size,2,none⟩ = some (.slice pa lx.length pac) ∧ (wr.alloc (.cells #[.int .i64 x0,.int .i64 x1,.slice pa lx.length pac,.int .i64 x3,.int .i64 x4] 85)).cell? ⟨wr.heap.size,3,none⟩ = some (.int .i64 x3) ∧ (wr.alloc (.cells #[.int .i64 x0,.int .i64 x1,.slice pa lx.length pac,.int .i64 x3,.int .i64 x4] 85)).cell? ⟨wr.heap.size,4,none⟩ = some (.int .i64 x4) ∧ (wr.alloc (.cells #[.int .i64 x0,.int .i64 x1,.slice pa lx.length pac,.int .i64 x3,.int .i64 x4] 85)).cell? ⟨bb,ob + k * 5,none⟩ = some (.int .i64 y0) ∧ (wr.alloc (.cells #[.int .i64 x0,.int .i64 x1,.slice pa lx.length pac,.int .i64 x3,.int .i64 x4] 85)).cell? ⟨bb,ob + k * 5 + 1,none⟩ = some (.int .i64 y1) ∧ (wr.alloc (.cells #[.int .i64 x0,.int .i64 x1,.slice pa lx.length pac,.int .i64 x3,.int .i64 x4] 85)).cell? ⟨bb,ob + k * 5 + 2,none⟩ = some (.slice pb ly.length pbc) ∧ (wr.alloc (.cells #[.int .i64 x0,.int .i64 x1,.slice pa lx.length pac,.int .i64 x3,.int .i64 x4] 85)).cell? ⟨bb,ob + k * 5 + 3,none⟩ = some (.int .i64 y3) ∧ (wr.alloc (.cells #[.int .i64 x0,.int .i64 x1,.slice pa lx.length pac,.int .i64 x3,.int .i64 x4] 85)).cell? ⟨bb,ob + k * 5 + 4,none⟩ = some (.int .i64 y4):=⟨hx0,hx1,hx2,hx3,hx4,hy0,hy1,hy2,hy3,hy4⟩;clear hHT0 hx0 hx1 hx2 hx3 hx4 hy0 hy1 hy2 hy3 hy4 f0 g0 f1 g1 f2 g2 f3 g3 f4 g4;have HWs:Hid (wr.heap.size + 1 = (wr.alloc (.cells #[.int .i64 x0,.int .i64 x1,.slice pa lx.length pac,.int .i64 x3,.int .i64 x4] 85)).heap.size):=zh (by simp)
   have HIn:=zh (And.intro (HF6.out.1.below HT0.out) (HF6.out.2.below HT0.out));generalize wr.alloc (.cells #[.int .i64 x0,.int .i64 x1,.slice pa lx.length pac,.int .i64 x3,.int .i64 x4] 85) = W at *;have HJz:=zh (fun w1 (hb:Below W.heap.size W w1) => HJk.out w1 _ _ (HIn.out.1.below hb) (HIn.out.2.below hb))
   clear HJk HJ;go_cut [11,12] from 16 to 37 (fun v11 v12 wx => ∃ (M E:Nat) (z0 z1:Int) (lz:List Int) (z3 z4:Int) (pq:Option Addr) (cq:Nat),v11 = .pointer (some ⟨M,0,none⟩) ∧ v12 = .int .i64 E ∧ Hid (MadeAt14 85 W M #[.int .i64 z0,.int .i64 z1,.slice pq lz.length cq,.int .i64 z3,.int .i64 z4] wx ∧ ((okW (wg l k) (wg m k) = false ∧ E = 10) ∨ (okW (wg l k) (wg m k) = true ∧ E = 0 ∧ JW (wg l k) (wg m k) ⟨z0,z1,lz,z3,z4⟩)) ∧ wx.ownsRow W.heap.size 27 1 (.slice pq lz.length cq) lz.length (lz.map (Value.int .u32))))
   case first =>
    have hk:W.drew.cell? ⟨wr.heap.size,0,none⟩ = some (.int .i64 x0) ∧ W.drew.cell? ⟨wr.heap.size,1,none⟩ = some (.int .i64 x1) ∧ W.drew.cell? ⟨wr.heap.size,2,none⟩ = some (.slice pa lx.length pac) ∧ W.drew.cell? ⟨wr.heap.size,3,none⟩ = some (.int .i64 x3) ∧ W.drew.cell? ⟨wr.heap.size,4,none⟩ = some (.int .i64 x4) ∧ W.drew.cell? ⟨bb,ob + k * 5,none⟩ = some (.int .i64 y0) ∧ W.drew.cell? ⟨bb,ob + k * 5 + 1,none⟩ = some (.int .i64 y1) ∧ W.drew.cell? ⟨bb,ob + k * 5 + 2,none⟩ = some (.slice pb ly.length pbc) ∧ W.drew.cell? ⟨bb,ob + k * 5 + 3,none⟩ = some (.int .i64 y3) ∧ W.drew.cell? ⟨bb,ob + k * 5 + 4,none⟩ = some (.int .i64 y4):=hk0;go_region_held3 (fun w' => w'.cell? ⟨wr.heap.size,0,none⟩ = some (.int .i64 x0) ∧ w'.cell? ⟨wr.heap.size,1,none⟩ = some (.int .i64 x1) ∧ w'.cell? ⟨wr.heap.size,2,none⟩ = some (.slice pa lx.length pac) ∧ w'.cell? ⟨wr.heap.size,3,none⟩ = some (.int .i64 x3) ∧ w'.cell? ⟨wr.heap.size,4,none⟩ = some (.int .i64 x4) ∧ w'.cell? ⟨bb,ob + k * 5,none⟩ = some (.int .i64 y0) ∧ w'.cell? ⟨bb,ob + k * 5 + 1,none⟩ = some (.int .i64 y1) ∧ w'.cell? ⟨bb,ob + k * 5 + 2,none⟩ = some (.slice pb ly.length pbc) ∧ w'.cell? ⟨bb,ob + k * 5 + 3,none⟩ = some (.int .i64 y3) ∧ w'.cell? ⟨bb,ob + k * 5 + 4,none⟩ = some (.int .i64 y4)) (first | (with_reducible exact hk) | exact hold10 (by repeat' first | exact Below.refl _ _ | refine Below.drew ?_ | refine Below.alloc ?_ (by first | exact Nat.le_refl _ | exact hBw.size | (simp; done) | (simp; omega) | (have:=hBw.size; simp; omega)) _ | refine Below.setCell ?_ (by first | exact Nat.le_refl _ | (simp; done) | (simp; omega)) _ | exact hBw) hk0)
     (first
      | (go_at_call 110; refine (HJz.out _ (by (repeat' first | exact Below.refl _ _ | refine Below.drew ?_ | refine Below.alloc ?_ (by first | exact Nat.le_refl _ | (simp; done) | (simp; omega)) _); done)).mono ?_; rintro e w2 hr; obtain ⟨z0,z1,lz,z3,z4,pq,cq,E,rfl,hb2,hj,ho⟩:=JWP.raw hr; (first | (have hBw:Below W.heap.size W w2:=zqaw hb2) | (obtain ⟨hMz,hBw⟩:=zqm1 (W:=W) (w2:=w2) (cs:=#[.int .i64 0,.int .i64 0,.slice none 0 0,.int .i64 0,.int .i64 0]) (T:=85) hb2; have zf:=zqav hMz; obtain ⟨e0,e1,e2,e3,e4⟩:=row5 hMz) | (obtain ⟨hMz,hBw⟩:=zqm2 (W:=W) (w2:=w2) (cs:=#[.int .i64 0,.int .i64 0,.slice none 0 0,.int .i64 0,.int .i64 0]) (T:=85) hb2; have zf:=zqav hMz; obtain ⟨e0,e1,e2,e3,e4⟩:=row5 hMz)); have hk:=hold10 hBw hk0; have HJr:=zh hj; rw [← HXY.out.1,← HXY.out.2] at HJr; have HO2:=zh (zqak ho (B':=W.heap.size) (by simp)); clear hr hb2 hj ho))
    all_goals
     go_wp2_with fail;go_meet
     first
      | (have h1:=zqtl (a:=.int .i64 z0) (b:=.int .i64 z1) (c:=.slice pq lz.length cq) (d:=.int .i64 z3) (e:=.int .i64 z4) hMz hBw; have h2:=zqij (a:=.int .i64 z0) (b:=.int .i64 z1) (c:=.slice pq lz.length cq) (d:=.int .i64 z3) (e:=.int .i64 z4) hMz (by decide) HO2.out; exact ⟨W.heap.size,E,z0,z1,lz,z3,z4,pq,cq,rfl,rfl,zh ⟨h1,HJr.out,h2⟩⟩)
      | (have h1:=zqjf (T:=85) (cs:=#[.int .i64 z0,.int .i64 z1,.slice pq lz.length cq,.int .i64 z3,.int .i64 z4]) hBw; have h2:=zqaj HO2.out (zqab w2 (.cells #[.int .i64 z0,.int .i64 z1,.slice pq lz.length cq,.int .i64 z3,.int .i64 z4] 85)); exact ⟨w2.heap.size,E,z0,z1,lz,z3,z4,pq,cq,rfl,rfl,zh ⟨h1,HJr.out,h2⟩⟩)
   case rest =>
    obtain ⟨M,E,z0,z1,lz,z3,z4,pq,cq,rfl,rfl,hC⟩:=hcut;obtain ⟨e0,e1,e2,e3,e4⟩:=row5 hC.out.1.1;have HBc:=zh (HB0.out.trans (hC.out.1.2.1.mono HB0.out.size));have HWs:=zh (HS.out.2.2.1.below (zqaa HT0.out hC.out.1.2.1));have HOq:=zh (zqak hC.out.2.2 (B':=w.heap.size) HB0.out.size);have HPs:=zh HS.out.1;have HJl:=zh HS.out.2.2.2;have HRs:=zh hC.out.2.1;clear hC hk0 HJz HXY HIn HF6 HT0;rcases HRs.out with ⟨hok,rfl⟩ | ⟨hok,rfl,hJW⟩
    ·have HR:=zh HRs.out;clear e0 e1 e2 e3 e4 HRs;go_wp2_with fail;go_ret2;exact ⟨HBc.out,.inl ⟨⟨k,hlk,hok⟩,rfl⟩⟩
    ·obtain ⟨pv,cv,rfl⟩:=zqae HWs.out.1;clear HRs;go_wp2_with (at_builtin; refine wpList_append_own _ rfl _ _ 35 rfl w.heap.size 85 i0 (.agg #[.int .i64 0,.int .i64 0,.slice none 0 0,.int .i64 0,.int .i64 0]) 5 56 Tryz.underlying35 hi hz0 hz1 hz2 zqcw (by decide) _ _ (cellsW ps) rfl (zqaj HWs.out.1 (zqab _ _)) ⟨wc.heap.size,0,none⟩ 1 1 [.int .i64 z0,.int .i64 z1,.slice pq lz.length cq,.int .i64 z3,.int .i64 z4] rfl rfl (World.news_of_block (heap_alloc_new wc _)) (by intro u hu; simp at hu; rcases hu with rfl | rfl | rfl | rfl | rfl <;> rfl) (by have:=HPs.out; have:=HL.out.2; unfold maxLen; omega) (by have:=HPs.out; have:=HL.out.2; omega) (by have:=HBc.out.size; simp; omega) ?_; intro v' w9 hown hgrow hiff; clear hiff; have HZ:=zh (WsOwn.push (x:=⟨z0,z1,lz,z3,z4⟩) (HWs.out.below (zqab _ _)) (zqaj HOq.out (zqab _ _)) hown hgrow); have HB9:=zh (Below.grown (zqaa HBc.out (zqab _ _)) hgrow (by have:=HBc.out.size; simp; omega) (fun gg hg => (World.ownsRow.lt HWs.out.1 gg hg).1)); obtain ⟨pv',cv',rfl⟩:=zqae hown; clear hown hgrow)
     go_roundw
     case rel => exact ⟨k + 1,ps ++ [(.slice pq lz.length cq,⟨z0,z1,lz,z3,z4⟩)],hle.out,by go_num,zh ⟨by simp [HPs.out],HB9.out,HZ.out,fun j hj => HGd.out j hj ps HPs.out (.slice pq lz.length cq,⟨z0,z1,lz,z3,z4⟩) HJl.out ⟨hok,hJW⟩⟩⟩
     case measure => simp [intOf]; omega
  ·have:k = l.length:=by omega
   subst this;have HF:=zh HS.out;obtain ⟨pv,cv,rfl⟩:=zqae HS.out.2.2.1.1;clear HS hlk hk;go_wp2_with fail;go_ret2;exact ⟨HF.out.2.1,.inr ⟨_,ps,rfl,HF.out.2.2.1,HF.out.1,HF.out.2.2.2⟩⟩
structure OW (x:Int) (z:Wh):Prop where
 sum:z.sum = x
 abs:z.abs = (x.natAbs:Int)
 wd:Wd z.sq
 ty:Tidy z.sq
 sq:wv z.sq = x * x
 mn:z.mn = x
 mx:z.mx = x
structure OR (x:Nat) (z:Re):Prop where
 sum:IsEnc (flagN x) (unitsI x) z.sum
 mn:z.mn = x
 mx:z.mx = x
theorem OW.same {x:Int} {z z':Wh} (h:OW x z) (k:OW x z'):z = z':=by
 obtain ⟨a1,b1,c1,d1,e1⟩:=z;obtain ⟨a2,b2,c2,d2,e2⟩:=z';have h1:=h.sum.trans k.sum.symm;have h2:=h.abs.trans k.abs.symm;have h3:=zqbb h.wd k.wd h.ty k.ty (h.sq.trans k.sq.symm);have h4:=h.mn.trans k.mn.symm;have h5:=h.mx.trans k.mx.symm;simp only at h1 h2 h3 h4 h5;subst h1 h2 h3 h4 h5
 rfl
theorem OR.same {x:Nat} {z z':Re} (h:OR x z) (k:OR x z'):z = z':=by
 obtain ⟨a1,b1,c1⟩:=z;obtain ⟨a2,b2,c2⟩:=z';have h1:=h.sum.unique k.sum;have h2:=h.mn.trans k.mn.symm;have h3:=h.mx.trans k.mx.symm;simp only at h1 h2 h3;subst h1 h2 h3
 rfl
def OWP (x:Int) (w:World) (e:Ending) (w':World):Prop :=
 ∃ (z0 z1:Int) (lz:List Int) (z3 z4:Int) (p:Option Addr) (c E:Nat),e = .returned (.tuple #[.agg #[.int .i64 z0,.int .i64 z1,.slice p lz.length c,.int .i64 z3,.int .i64 z4],.int .i64 E]) ∧ Below w.heap.size w w' ∧ ((x = -9223372036854775808 ∧ E = 10) ∨ (x ≠ -9223372036854775808 ∧ E = 0 ∧ OW x ⟨z0,z1,lz,z3,z4⟩)) ∧
  w'.ownsRow w.heap.size 27 1 (.slice p lz.length c) lz.length (lz.map (Value.int .u32))
def ORP (x:Nat) (w:World) (e:Ending) (w':World):Prop :=
 ∃ (lz:List Int) (p:Option Addr) (c:Nat),e = .returned (.agg #[.slice p lz.length c,.float .f64 x,.float .f64 x]) ∧ Below w.heap.size w w' ∧ OR x ⟨lz,x,x⟩ ∧
  w'.ownsRow w.heap.size 5 1 (.slice p lz.length c) lz.length (lz.map (Value.int .u8))
set_option maxHeartbeats 4000000 in
theorem zqq8 (w:World) (x:Int) (hx:I64 x):Calls Tryz.prog 96 #[.int .i64 x] w (OWP x w):=by
 have HA:=zh (fun w1 => zqxz x hx.1 hx.2 w1)
 have HO:=zh (fun w1 => zqpo (x.natAbs:Int) (by omega) (by have:=hx.1; have:=hx.2; omega) w1)
 have HM:=zh (fun w1 u a (h:WList w1 u a) (hl:a.length ≤ 2) => zqww u u a a w1 h h (by omega) (by omega))
 have hab:x = -9223372036854775808 ∧ (x.natAbs:Int) = 9223372036854775808 ∨ x ≠ -9223372036854775808 ∧ (x.natAbs:Int) ≤ 9223372036854775807:=by have:=hx.1; have:=hx.2; omega
 have hsq:=zh (show (x.natAbs:Int) * (x.natAbs:Int) = x * x by rw [Int.natAbs_mul_self'])
 have HZ:=zh (show (w.alloc (.cells #[.int .i64 0,.int .i64 0,.slice none 0 0,.int .i64 0,.int .i64 0] 85)).heap[w.heap.size]? = some (.cells #[.int .i64 0,.int .i64 0,.slice none 0 0,.int .i64 0,.int .i64 0] 85 (0,0)) from heap_alloc_new w _);have HB:=zh (zqab w (.cells #[.int .i64 0,.int .i64 0,.slice none 0 0,.int .i64 0,.int .i64 0] 85));have h0:(0:Int) ≤ (x.natAbs:Int):=by omega
 unfold OWP;unfold Fresh at HO HM;have HO5:=zh (fun (z:Wh) (h1:z.sum = x) (h2:z.abs = (x.natAbs:Int)) h3 h4 h5 h6 h7 => (⟨h1,h2,h3,h4,h5,h6,h7⟩:OW x z))
 generalize OW x = OWx at *;generalize hA:(x.natAbs:Int) = A at *;clear hx hA;go_enter Tryz.func96,Tryz.ntmps96;go_upto_region 1 with fail;generalize w.alloc (.cells #[.int .i64 0,.int .i64 0,.slice none 0 0,.int .i64 0,.int .i64 0] 85) = W at *;obtain ⟨e0,e1,e2,e3,e4⟩:=row5 HZ.out;have zf:=zqav HZ.out;have hlt:w.heap.size < W.heap.size:=(Array.getElem?_eq_some_iff.1 HZ.out).1;go_wp2_with fail;refine (HA.out _).mono ?_; rintro e w1 ⟨rfl,rfl⟩;rcases hab with ⟨hx,rfl⟩ | ⟨hx,hA⟩
 ·have HB9:=zh (zqb3 (R:=w.heap.size) (a:=.int .i64 0) (b:=.int .i64 0) (c:=.slice none 0 0) (d:=.int .i64 0) (e:=.int .i64 0) HB.out (Nat.le_refl _));have HZ9:=zh (zqed (a:=.int .i64 0) (b:=.int .i64 0) (c:=.slice none 0 0) (d:=.int .i64 0) (e:=.int .i64 0) HZ.out);clear HA HO HM hsq HO5;go_wp2_with fail;unfold set5 at HB9 HZ9;obtain ⟨r0,r1,r2,r3,r4⟩:=row5 HZ9.out;exact bodyPost_ret (v:=.tuple #[.agg #[.int .i64 0,.int .i64 0,.slice none 0 0,.int .i64 0,.int .i64 0],.int .i64 10]) (by simp [results,Tryz.results96,go_sem,r0,r1,r2,r3,r4]) rfl ⟨0,0,[],0,0,none,0,10,rfl,HB9.out,.inl ⟨hx,rfl⟩,zqkh _ _⟩
 ·have hg:decide (A > 9223372036854775807) = false:=decide_eq_false (by omega)
  have i1:IntKind.i64.wrap A = A:=IntWalk.i64_in _ (by omega)
  have i1':wrap64 A = A:=wrap64_in (by omega) (by omega)
  have HBS:=zh (fun w2 (hb:Below W.heap.size W w2) => HB.out.trans (hb.mono HB.out.size))
  clear HA e0 e1 e2 e3 e4 zf;go_wp2_with fail;refine (HO.out _).mono ?_; rintro e w2 ⟨u,a,rfl,g1,g2,g3,g4,g5,g6⟩;have HWL:=zh (zqa4 g1 g2 (by omega))
  have HM2:=zh (HM.out _ _ _ HWL.out g5);rw [g4,hsq.out] at HM2;have HW2:=zh g6;obtain ⟨p,c,rfl⟩:=zqae g1;clear g1 g2 g3 g4 g5 g6 HO HM;go_wp2_with fail;refine (HM2.out).mono ?_; rintro e w3 ⟨v,l,rfl,g1,g2,g3,g4,g5,g6⟩;have hb3:=zqaa HW2.out g6;have hz3:=(hb3.block _ hlt).trans HZ.out;obtain ⟨q,d,rfl⟩:=zqae g1;have hB:=zqb3 (R:=w.heap.size) (a:=.int .i64 x) (b:=.int .i64 A) (c:=.slice q l.length d) (d:=.int .i64 x) (e:=.int .i64 x) (HBS.out _ hb3) (Nat.le_refl _);have hZ:=zqed (a:=.int .i64 x) (b:=.int .i64 A) (c:=.slice q l.length d) (d:=.int .i64 x) (e:=.int .i64 x) hz3;have hO:=zqij (a:=.int .i64 x) (b:=.int .i64 A) (c:=.slice q l.length d) (d:=.int .i64 x) (e:=.int .i64 x) hz3 (by decide) (zqak g1 (B':=w.heap.size) (HBS.out _ HW2.out).size)
  unfold set5 at hB hZ hO;have HB9:=zh hB;have HZ9:=zh hZ;have HO9:=zh hO;have HG:=zh (HO5.out ⟨x,A,l,x,x⟩ rfl rfl g2 g3 g4 rfl rfl);obtain ⟨e0,e1,e2,e3,e4⟩:=row5 hz3;have zf:=zqav hz3;clear hB hZ hO g1 g2 g3 g4 g5 g6 hb3 hz3 HM2 HO5;go_wp2_with fail;obtain ⟨r0,r1,r2,r3,r4⟩:=row5 HZ9.out;exact bodyPost_ret (v:=.tuple #[.agg #[.int .i64 x,.int .i64 A,.slice q l.length d,.int .i64 x,.int .i64 x],.int .i64 0]) (by simp [results,Tryz.results96,go_sem,r0,r1,r2,r3,r4]) rfl ⟨_,_,_,_,_,_,_,0,rfl,HB9.out,.inr ⟨hx,rfl,HG.out⟩,HO9.out⟩
set_option maxHeartbeats 4000000 in
theorem zqt0 (w:World) (x:Nat) (hx:W64 x) (hT:Tab w) (hT2:Tab64 w):Calls Tryz.prog 97 #[.float .f64 x] w (ORP x w):=by
 have hf:Fits (0 + unitsI x):=(Fewer.zero.add (zqkx x hx)).fits (by decide)
 have HA:=zh (fun w1 N (hs:SumAt w1 N 0 0) (ht:Tab64 w1) => zqw5 w1 N 0 x 0 hs hx ht hf)
 rw [Nat.zero_or,Int.zero_add] at HA;have hsf:=fun (w:World) (a:Addr) (m:Mode) (k:Nat) => zqa6 (P:=Tryz.prog) (w:=w) (a:=a) (m:=m) k
 have HZ:=zh (show (w.alloc (.cells #[.slice none 0 0,.float .f64 0,.float .f64 0] 90)).heap[w.heap.size]? = some (.cells #[.slice none 0 0,.float .f64 0,.float .f64 0] 90 (0,0)) from heap_alloc_new w _);have HB:=zh (zqab w (.cells #[.slice none 0 0,.float .f64 0,.float .f64 0] 90));have HTb:=zh (fun w1 (h:Below w.heap.size w w1) => And.intro (hT.call h) (hT2.call h))
 have HO5:=zh (fun (l:List Int) (h1:IsEnc (flagN x) (unitsI x) l) => (⟨h1,rfl,rfl⟩:OR x ⟨l,x,x⟩))
 unfold ORP;unfold JoinP at HA;generalize OR x = ORx at *;generalize flagN x = fx at *;generalize unitsI x = ux at *;clear hT hT2 hf hx;go_enter Tryz.func97,Tryz.ntmps97;go_upto_region 1 with fail;generalize w.alloc (.cells #[.slice none 0 0,.float .f64 0,.float .f64 0] 90) = W at *;have hlt:w.heap.size < W.heap.size:=(Array.getElem?_eq_some_iff.1 HZ.out).1;go_wp2_with fail;refine (zqiu _).mono ?_; rintro e w1 ⟨rfl,rfl⟩;have HW1:=zh (zqab W (.cells #[.slice none 0 0,.bool false,.int .u8 0,.bool true] 211));have HS1:=zh (zqzl W);have hN1:W.heap.size < (W.alloc (.cells #[.slice none 0 0,.bool false,.int .u8 0,.bool true] 211)).heap.size:=by simp
 generalize W.alloc (.cells #[.slice none 0 0,.bool false,.int .u8 0,.bool true] 211) = W1 at *;have HA1:=zh (HA.out W1 _ HS1.out (HTb.out _ (HB.out.trans (HW1.out.mono HB.out.size))).2);clear HA;go_wp2_with fail;refine (HA1.out).mono ?_; rintro e w2 ⟨rfl,hs2,hg⟩;have HW2:=zh (HW1.out.trans (zqi9 hg (Nat.le_refl _) hN1));obtain ⟨l,hl⟩:=hs2.enc;have HB2:=zh (HB.out.trans (HW2.out.mono HB.out.size));have HBy:=zh (zqjl w2 W.heap.size _ _ l hs2 hl (HTb.out _ HB2.out).1);have HG:=zh (HO5.out l hl);unfold BytesP5 at HBy;clear hs2 hg hl HA1 HS1 HO5;go_wp2_with fail;refine (HBy.out).mono ?_; rintro e w3 ⟨⟨v,rfl,ho⟩,hb⟩;have hb3:=HW2.out.trans (hb.mono HW2.out.size);have hz3:=(hb3.block _ hlt).trans HZ.out;obtain ⟨q,d,rfl⟩:=zqae ho;have hB:=zqb2 (R:=w.heap.size) (a:=.slice q l.length d) (b:=.float .f64 x) (c:=.float .f64 x) (HB.out.trans (hb3.mono HB.out.size)) (Nat.le_refl _);have hZ:=zqec (a:=.slice q l.length d) (b:=.float .f64 x) (c:=.float .f64 x) hz3;have hO:=zqii (a:=.slice q l.length d) (b:=.float .f64 x) (c:=.float .f64 x) hz3 (by decide) (zqak ho (B':=w.heap.size) HB2.out.size)
 unfold set3 at hB hZ hO;have HB9:=zh hB;have HZ9:=zh hZ;have HO9:=zh hO;obtain ⟨e0,e1,e2⟩:=row3 hz3;have zf:=zqav hz3;clear hB hZ hO hb hb3 hz3 ho HBy;go_wp2_with fail;obtain ⟨r0,r1,r2⟩:=row3 HZ9.out;exact bodyPost_ret (v:=.agg #[.slice q l.length d,.float .f64 x,.float .f64 x]) (by simp [results,Tryz.results97,go_sem,r0,r1,r2]) rfl ⟨_,_,_,rfl,HB9.out,HG.out,HO9.out⟩
end Go.Proofs.YtmnbljijnbhghaaGreatDoor
namespace Go.Proofs.YtmnbljijnbhghaaGreatDoor
set_option maxRecDepth 100000
open Go.ChangeShapes Go.WideShapes Go.ChangeAt Go.RowKit Go.Deep
set_option linter.unusedVariables false
section
variable {H : Type} {enc : TypeId × Value → H} {w : World} {base : Nat} {spare : Nat → Bool} {held : Bool}
theorem zqmz {fuel:Nat} {k:IntKind} {v:Value} {x:DataW H × List MemPlace} {T E:TypeId} (hT:Tryz.prog.underlying T = some (.slice E)) (hE:Tryz.prog.underlying E = some (.int k)) (h1:Tryz.prog.cellsOf E = 1)
  (h:DataW.trod enc Tryz.prog w base spare held fuel T [v] = some x) :
  ∃ vs,Ints k w v vs ∧ (∀ d ∈ vs,(Lit.int k d).wf = true) ∧ vs.length ≤ 9223372036854775807:=by
 rcases open_ints hT hE h1 h with ⟨hcs,_⟩ | ⟨x,l,c,zs,hcs,_,hl,hm,hz,_,hcell,hwz⟩
 ·obtain rfl:v = .slice none 0 0:=by simpa using hcs
  exact ⟨[],⟨none,0,rfl,by simp,.inl rfl⟩,(fun _ h => by cases h),by simp⟩
 ·obtain rfl:v = .slice (some x) l c:=by simpa using hcs
  have hlz:l ≤ zs.length:=by rw [hz]; split <;> omega
  have ht:(zs.take l).length = l:=by rw [List.length_take]; omega
  refine ⟨zs.take l,⟨some x,c,by rw [ht],by omega,?_⟩,fun n hn => hwz n (List.mem_of_mem_take hn),by rw [ht]; unfold maxLen at hm; omega⟩
  by_cases h0:l = 0
  ·subst h0; exact .inl (by simp)
  ·refine .inr ?_;obtain ⟨b,off,spot⟩:=x;have hc:=hcell 0 (by omega)
   have hspot:spot = none:=by simpa [Addr.add] using World.cell?_spot hc
   subst hspot;refine ⟨b,off,rfl,World.block_lt_of_cell? w _ hc,fun i hi => ?_⟩
   rw [ht] at hi;have e:(zs.take l).getD i 0 = zs.getD i 0:=by simp [List.getD,hi]
   rw [e];have hh:=hcell i (by omega)
   by_cases h0:i = 0
   ·subst h0; simpa [Addr.add] using hh
   ·simpa [Addr.add,h0] using hh
theorem zqie {α:Type} {fuel n:Nat} {v:Value} {x:DataW H × List MemPlace} {T E:TypeId} (R:α → List Value → Prop) (a0:α) (hn:0 < n) (hT:Tryz.prog.underlying T = some (.slice E)) (hc:Tryz.prog.cellsOf E = n)
  (hr:∀ {fuel:Nat} {cs:List Value} {x:DataW H × List MemPlace},DataW.trod enc Tryz.prog w base spare held fuel E cs = some x → ∃ a,R a cs ∧ cs.length = n)
  (h:DataW.trod enc Tryz.prog w base spare held fuel T [v] = some x) :
  ∃ (l:List α) (a:Option Addr) (cap:Nat),v = .slice a l.length cap ∧ l.length ≤ cap ∧ l.length ≤ 9223372036854775807 ∧ (∀ y ∈ l,∃ cs,R y cs) ∧ (l = [] ∨ ∃ b off,a = some ⟨b,off,none⟩ ∧ b < w.heap.size ∧ ∀ i (hi:i < l.length),∃ cs,R l[i] cs ∧ ∀ j,j < n → w.cell? ⟨b,off + i * n + j,none⟩ = cs[j]?):=by
 rcases open_slice hT h with ⟨hv,-⟩ | ⟨a,len,cap,m,nn,Dx,Pl,hv,-,hl,hcm,hmm,-,hi⟩
 ·obtain rfl:v = .slice none 0 0:=by simpa using hv
  exact ⟨[],none,0,rfl,by simp,by simp,fun _ h => by (cases h),.inl rfl⟩
 ·obtain rfl:v = .slice (some a) len cap:=by simpa using hv
  have hlm:len ≤ m:=by rw [hmm]; split <;> omega
  have hq:∀ k,∃ f:α,k < len → ∃ cs,(∀ j,j < n → w.cell? ((a.add (k * n)).add j) = cs[j]?) ∧ R f cs ∧ cs.length = n:=by
   intro k
   by_cases hk:k < len
   ·obtain ⟨cs',hc',ht⟩:=hi k (by omega)
    obtain ⟨f,hf,hlen⟩:=hr ht;rw [hc] at hc';obtain ⟨-,-,hat⟩:=World.cells?_some hc';exact ⟨f,fun _ => ⟨cs',hat,hf,hlen⟩⟩
   ·exact ⟨a0,fun h => absurd h hk⟩
  obtain ⟨q,hq⟩:=Classical.axiomOfChoice hq;have hle:((List.range len).map q).length = len:=by simp
  have hget:∀ k (h:k < ((List.range len).map q).length),((List.range len).map q)[k] = q k:=fun k hk => by simp
  refine ⟨(List.range len).map q,some a,cap,by rw [hle],by rw [hle]; exact hl,by rw [hle]; unfold maxLen at hcm; omega,fun y hy => ?_,?_⟩
  ·obtain ⟨k,hk,rfl⟩:=List.getElem_of_mem hy;obtain ⟨cs,-,h3,-⟩:=hq k (by rw [hle] at hk; exact hk)
   rw [hget k hk];exact ⟨cs,h3⟩
  ·by_cases h0:len = 0
   ·exact .inl (by subst h0; rfl)
   ·refine .inr ?_;obtain ⟨b,off,spot⟩:=a;obtain ⟨cs,hcc,-,hlen⟩:=hq 0 (by omega)
    have hc0:=hcc 0 hn;have hsome:∃ u,cs[0]? = some u:=⟨cs[0],by rw [List.getElem?_eq_getElem]⟩
    obtain ⟨u,hu⟩:=hsome;rw [hu] at hc0;have hspot:spot = none:=by simpa [Addr.add] using World.cell?_spot hc0
    subst hspot;refine ⟨b,off,rfl,by simpa [Addr.add] using World.block_lt_of_cell? w _ hc0,fun k hk => ?_⟩
    obtain ⟨cs,hh,h3,-⟩:=hq k (by rw [hle] at hk; exact hk)
    have ha:(⟨b,off,none⟩:Addr).add (k * n) = ⟨b,off + k * n,none⟩:=by
     by_cases k0:k = 0
     ·subst k0; simp [Addr.add]
     ·have k6:¬ k * n = 0:=by simp [Nat.mul_eq_zero]; omega
      simp only [Addr.add,if_neg k6]
    rw [ha] at hh;refine ⟨cs,by rw [hget k hk]; exact h3,fun j hj => ?_⟩
    have:=hh j hj;have hb:(⟨b,off + k * n,none⟩:Addr).add j = ⟨b,off + k * n + j,none⟩:=by
     by_cases k0:j = 0
     ·subst k0; simp [Addr.add]
     ·simp only [Addr.add,if_neg k0]
    rw [hb] at this;exact this
end
end Go.Proofs.YtmnbljijnbhghaaGreatDoor
namespace Go.Proofs.YtmnbljijnbhghaaGreatDoor
set_option maxRecDepth 100000
open Go.RowKit
set_option linter.unusedVariables false
set_option maxRecDepth 100000
open Go.RowKit
set_option linter.unusedVariables false
set_option maxRecDepth 100000
open Go.RowKit
set_option linter.unusedVariables false
def cellsD (ds:List (ByteArray × Int)):List Value:=ds.flatMap fun d => [.string d.1,.int .i64 d.2]
abbrev DOwn (w:World) (B:Nat) (v:Value) (ds:List (ByteArray × Int)):Prop:=w.ownsRow B 68 2 v ds.length (cellsD ds)
theorem zqiw:∀ (ds:List (ByteArray × Int)) (i:Nat),i < ds.length → (cellsD ds)[i * 2]? = some (.string (dn ds i)) ∧ (cellsD ds)[i * 2 + 1]? = some (.int .i64 (dz ds i))
 | [],i,h => by simp at h
 | d :: ds,0,_ => by simp [cellsD,dn,dz]
 | d :: ds,i + 1,h => by
  have ih:=zqiw ds i (by simpa using h)
  have e:cellsD (d :: ds) = .string d.1 :: .int .i64 d.2 :: cellsD ds:=by simp [cellsD]
  have e1:(i + 1) * 2 = i * 2 + 1 + 1:=by omega
  rw [e,e1];simp only [List.getElem?_cons_succ];refine ⟨ih.1.trans ?_,ih.2.trans ?_⟩
  ·simp [dn]
  ·simp [dz]
theorem Dims.own {w:World} {B:Nat} {v:Value} {ds:List (ByteArray × Int)} (h:DOwn w B v ds):Dims w v ds:=by
 obtain ⟨hl,h⟩:=h;rcases h with ⟨rfl,h0⟩ | ⟨g,cap,cur,rfl,_,hb,hnc,hm,hs,ht⟩
 ·have:ds = []:=List.length_eq_zero_iff.1 h0;subst this;exact ⟨none,0,rfl,by simp,by simp,.inl rfl⟩
 ·refine ⟨_,cap,rfl,hnc,by unfold maxLen at hm; omega,.inr ⟨g,0,rfl,(Array.getElem?_eq_some_iff.1 hb).1,fun i hi => ?_⟩⟩
  obtain ⟨c0,c1⟩:=zqiw ds i hi;rw [← ht,List.getElem?_take,if_pos (by omega)] at c0 c1
  refine ⟨?_,?_⟩
  ·rw [Nat.zero_add,cell_of_row _ _ (i * 2) _ _ (0,0) hb];simpa using c0
  ·rw [Nat.zero_add,cell_of_row _ _ (i * 2 + 1) _ _ (0,0) hb];simpa using c1
set_option maxRecDepth 100000
open Go.RowKit
set_option linter.unusedVariables false
theorem Box.set0 {w:World} {K:Nat} {D I M V u:Value} (h:Box w K D I M V):Box (w.setCell ⟨K,0,none⟩ u) K u I M V:=heap_setCell_same w K 0 _ _ u h
theorem Box.set1 {w:World} {K:Nat} {D I M V u:Value} (h:Box w K D I M V):Box (w.setCell ⟨K,1,none⟩ u) K D u M V:=heap_setCell_same w K 1 _ _ u h
theorem Box.free {w:World} {N:Nat} {D I M V:Value} (h:Box w N D I M V):w.frozen? ⟨N,0,none⟩ = false ∧ w.frozen? ⟨N,1,none⟩ = false ∧ w.frozen? ⟨N,2,none⟩ = false ∧ w.frozen? ⟨N,3,none⟩ = false:=by
 unfold Box at h;refine ⟨by simp [World.frozen?,h],by simp [World.frozen?,h],by simp [World.frozen?,h],by simp [World.frozen?,h]⟩
theorem Box.grown {w w':World} {K N:Nat} {D I M V:Value} (h:Box w K D I M V) (hg:w.grownBy w' (some N)) (hne:K ≠ N):Box w' K D I M V:=by
 unfold Box; rw [hg.block K h.lt (by simpa using hne)]; exact h
set_option maxRecDepth 100000
open Go.RowKit
set_option linter.unusedVariables false
end Go.Proofs.YtmnbljijnbhghaaGreatDoor
namespace Go.Proofs.YtmnbljijnbhghaaGreatDoor
set_option maxRecDepth 100000
open Go.RowKit
set_option linter.unusedVariables false
set_option maxRecDepth 100000
open Go.RowKit
set_option linter.unusedVariables false
theorem zqiz {S:Sc} (h:checkL S = 0):cntB S = true ∧ sizB S.ds = true:=by
 unfold checkL at h
 split at h
 ·cases h
 ·rename_i h1
  split at h
  ·cases h
  ·split at h
   ·cases h
   ·split at h
    ·cases h
    ·rename_i h2;exact ⟨by simpa using h1,by simpa using h2⟩
set_option maxRecDepth 100000
open Go.RowKit
set_option linter.unusedVariables false
set_option maxRecDepth 100000
open Go.RowKit
set_option linter.unusedVariables false
end Go.Proofs.YtmnbljijnbhghaaGreatDoor
namespace Go.Proofs.YtmnbljijnbhghaaGreatDoor
set_option maxRecDepth 100000
open Go.RowKit
set_option linter.unusedVariables false
set_option maxRecDepth 100000
open Go.RowKit Go.ChangeShapes Go.WideShapes Go.Deep
set_option linter.unusedVariables false
theorem zqku:Tryz.prog.cellsOf 68 = 2 ∧ Tryz.prog.cellsOf 9 = 1 ∧ Tryz.prog.cellsOf 3 = 1:=by
 refine ⟨?_,?_,?_⟩ <;> kernel_rfl
theorem zqxe {H:Type} {enc:TypeId × Value → H} {w:World} {base:Nat} {spare:Nat → Bool} {held:Bool} {fuel:Nat} {cs:List Value} {x:DataW H × List MemPlace}
  (h:DataW.trod enc Tryz.prog w base spare held fuel 68 cs = some x) :
  ∃ (s:ByteArray) (n:Int),cs = [.string s,.int .i64 n] ∧ s.size ≤ maxLen ∧ -9223372036854775808 ≤ n ∧ n ≤ 9223372036854775807:=by
 obtain ⟨xs,n,-,hx,hlen,hxl,hf⟩:=DataW.trod_struct Tryz.underlying68 h;rw [zqku.1] at hlen
 match cs,hlen with
 | [c0,c1],_ =>
  match xs,hxl with
  | [y0,y1],_ =>
   have h0:=hf 0 _ rfl;have h1:=hf 1 _ rfl;simp only [List.getElem?_cons_succ] at h0 h1;obtain ⟨s,e0,-,w0⟩:=DataW.trod_string Tryz.underlying9 h0;obtain ⟨m,e1,-,w1⟩:=DataW.trod_int Tryz.underlying3 h1;cases e0; cases e1
   simp [Lit.wf,IntKind.min,IntKind.max,IntKind.signed,IntKind.bits] at w1;exact ⟨s,m,rfl,w0,by omega,by omega⟩
theorem zqyd {H:Type} {enc:TypeId × Value → H} {w:World} {base:Nat} {spare:Nat → Bool} {held:Bool} {fuel:Nat} {v:Value} {x:DataW H × List MemPlace}
  (h:DataW.trod enc Tryz.prog w base spare held fuel 22 [v] = some x) :
  ∃ ds,Dims w v ds ∧ ∀ d ∈ ds,d.1.size ≤ maxLen ∧ -9223372036854775808 ≤ d.2 ∧ d.2 ≤ 9223372036854775807:=by
 rcases open_slice Tryz.underlying22 h with ⟨hv,-⟩ | ⟨a,len,cap,m,nn,Dx,Pl,hv,-,hl,hcm,hmm,-,hi⟩
 ·obtain rfl:v = .slice none 0 0:=by simpa using hv
  exact ⟨[],⟨none,0,rfl,by simp,by simp,.inl rfl⟩,fun _ h => by cases h⟩
 ·obtain rfl:v = .slice (some a) len cap:=by simpa using hv
  have hlm:len ≤ m:=by rw [hmm]; split <;> omega
  have hq:∀ k,∃ q:ByteArray × Int,k < len → (∀ j,j < 2 → w.cell? ((a.add (k * 2)).add j) = [Value.string q.1,.int .i64 q.2][j]?) ∧ q.1.size ≤ maxLen ∧ -9223372036854775808 ≤ q.2 ∧ q.2 ≤ 9223372036854775807:=by
   intro k
   by_cases hk:k < len
   ·obtain ⟨cs',hc,ht⟩:=hi k (by omega)
    obtain ⟨s,n,rfl,hwf⟩:=zqxe ht;rw [zqku.1] at hc;obtain ⟨-,-,hat⟩:=World.cells?_some hc;exact ⟨(s,n),fun _ => ⟨hat,hwf⟩⟩
   ·exact ⟨(ByteArray.empty,0),fun h => absurd h hk⟩
  obtain ⟨q,hq⟩:=Classical.axiomOfChoice hq;have hle:((List.range len).map q).length = len:=by simp
  have hget:∀ k,k < len → ((List.range len).map q).getD k (ByteArray.empty,0) = q k:=fun k hk => by simp [List.getD,hk]
  refine ⟨(List.range len).map q,⟨some a,cap,by rw [hle],by rw [hle]; exact hl,by rw [hle]; unfold maxLen at hcm; omega,?_⟩,fun d hd => ?_⟩
  ·by_cases h0:len = 0
   ·exact .inl (by subst h0; rfl)
   ·refine .inr ?_;obtain ⟨b,off,spot⟩:=a;have hc:=(hq 0 (by omega)).1 0 (by omega)
    have hspot:spot = none:=by simpa [Addr.add] using World.cell?_spot hc
    subst hspot;refine ⟨b,off,rfl,World.block_lt_of_cell? w _ hc,fun k hk => ?_⟩
    rw [hle] at hk;have hh:=(hq k hk).1;have ha:(⟨b,off,none⟩:Addr).add (k * 2) = ⟨b,off + k * 2,none⟩:=by
     by_cases k0:k = 0
     ·subst k0; simp [Addr.add]
     ·have k6:¬ k * 2 = 0:=by omega
      simp only [Addr.add,if_neg k6]
    rw [ha] at hh;have h0:=hh 0 (by omega)
    have h1:=hh 1 (by omega)
    simp only [Addr.add,if_true,Nat.one_ne_zero,if_false] at h0 h1;unfold dn dz;rw [hget k hk];exact ⟨h0,h1⟩
  ·obtain ⟨k,hk,rfl⟩:=List.mem_map.1 hd;exact (hq k (by simpa using hk)).2
theorem zqzc {H:Type} {enc:TypeId × Value → H} {w:World} {base:Nat} {spare:Nat → Bool} {held:Bool} {fuel:Nat} {v:Value} {x:DataW H × List MemPlace}
  (h:DataW.trod enc Tryz.prog w base spare held fuel 24 [v] = some x) :
  ∃ vs,Ints .u32 w v vs ∧ ∀ d ∈ vs,0 ≤ d ∧ d ≤ 4294967295:=by
 rcases open_ints Tryz.underlying24 Tryz.underlying27 (by kernel_rfl) h with ⟨hcs,_⟩ | ⟨x,l,c,zs,hcs,_,hl,hm,hz,_,hcell,hwz⟩
 ·obtain rfl:v = .slice none 0 0:=by simpa using hcs
  exact ⟨[],⟨none,0,rfl,by simp,.inl rfl⟩,fun _ h => by cases h⟩
 ·obtain rfl:v = .slice (some x) l c:=by simpa using hcs
  have hlz:l ≤ zs.length:=by rw [hz]; split <;> omega
  have ht:(zs.take l).length = l:=by rw [List.length_take]; omega
  refine ⟨zs.take l,⟨some x,c,by rw [ht],by omega,?_⟩,fun n hn => ?_⟩
  ·by_cases h0:l = 0
   ·subst h0; exact .inl (by simp)
   ·refine .inr ?_;obtain ⟨b,off,spot⟩:=x;have hc:=hcell 0 (by omega)
    have hspot:spot = none:=by simpa [Addr.add] using World.cell?_spot hc
    subst hspot;refine ⟨b,off,rfl,World.block_lt_of_cell? w _ hc,fun i hi => ?_⟩
    rw [ht] at hi;have e:(zs.take l).getD i 0 = zs.getD i 0:=by simp [List.getD,hi]
    rw [e];have hh:=hcell i (by omega)
    by_cases h0:i = 0
    ·subst h0; simpa [Addr.add] using hh
    ·simpa [Addr.add,h0] using hh
  ·have:=hwz n (List.mem_of_mem_take hn);simp [Lit.wf,IntKind.min,IntKind.max,IntKind.signed,IntKind.bits] at this;omega
theorem zqns {H:Type} {enc:TypeId × Value → H} {w:World} {base:Nat} {spare:Nat → Bool} {held:Bool} {fuel:Nat} {v:Value} {x:DataW H × List MemPlace}
  (h:DataW.trod enc Tryz.prog w base spare held fuel 23 [v] = some x) :
  ∃ l,Strs w v l ∧ ∀ s ∈ l,s.size ≤ maxLen:=by
 rcases open_strings Tryz.underlying23 Tryz.underlying9 (by kernel_rfl) h with ⟨hcs,_⟩ | ⟨x,l,c,zs,hcs,_,hl,hm,hz,_,hcell,hwz⟩
 ·obtain rfl:v = .slice none 0 0:=by simpa using hcs
  exact ⟨[],zqqq⟩
 ·obtain rfl:v = .slice (some x) l c:=by simpa using hcs
  have hlz:l ≤ zs.length:=by rw [hz]; split <;> omega
  have ht:(zs.take l).length = l:=by rw [List.length_take]; omega
  refine ⟨zs.take l,⟨some x,c,by rw [ht],by omega,by rw [ht]; unfold maxLen at hm; omega,?_⟩,fun n hn => hwz n (List.mem_of_mem_take hn)⟩
  by_cases h0:l = 0
  ·subst h0; exact .inl (by simp)
  ·refine .inr ?_;obtain ⟨b,off,spot⟩:=x;have hc:=hcell 0 (by omega)
   have hspot:spot = none:=by simpa [Addr.add] using World.cell?_spot hc
   subst hspot;refine ⟨b,off,rfl,World.block_lt_of_cell? w _ hc,fun i hi => ?_⟩
   rw [ht] at hi;have e:txt (zs.take l) i = zs.getD i ByteArray.empty:=by simp [txt,List.getD,hi]
   rw [e];have hh:=hcell i (by omega)
   by_cases h0:i = 0
   ·subst h0; simpa [Addr.add] using hh
   ·simpa [Addr.add,h0] using hh
theorem zquu {H:Type} {enc:TypeId × Value → H} {w:World} {base:Nat} {spare:Nat → Bool} {held:Bool} {r:Reach} {b0:Nat} {v:Value} {d:DataW H} {p:List MemPlace}
  (hv:Value.okWide Tryz.prog w r b0 26 v) (h:DataW.Trod enc Tryz.prog w base spare held 26 v d p) :
  ∃ D I N V S,v = SchV D I N V ∧ Sch4 w D I N V S ∧ SWf S:=by
 obtain ⟨u0,u1,u2,u3,y0,y1,y2,y3,m,rfl,-,-,t0,t1,t2,t3⟩:=Go.Joins.open_agg4 Tryz.underlying26 (by kernel_rfl) (by kernel_rfl) hv h
 obtain ⟨ds,k0,w0⟩:=zqyd t0;obtain ⟨is,k1,w1⟩:=zqns t1;obtain ⟨ns,k2,w2⟩:=zqns t2;obtain ⟨vs,k3,w3⟩:=zqzc t3;exact ⟨u0,u1,u2,u3,⟨ds,is,ns,vs⟩,rfl,⟨k0,k1,k2,k3⟩,⟨w0,w1,w2,w3⟩⟩
end Go.Proofs.YtmnbljijnbhghaaGreatDoor
