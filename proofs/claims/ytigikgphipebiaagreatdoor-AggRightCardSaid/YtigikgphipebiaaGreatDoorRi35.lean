/- Contracts that the law leans on, pruned and merged: Aggl Aggo Bufo Scif. -/
import Derived.Deep.CutRange
import Derived.Laws.CopyRow
import Derived.Laws.IdiomCopy
import Derived.Laws.OwnMore
import Derived.Laws.MakeOwn
import Derived.Lib.ConvBytes
import Derived.Lib.SmallJoins
import Derived.Test.YtigikgphipebiaaGreatDoorRi04
import Derived.Test.YtigikgphipebiaaGreatDoorRi06
import Derived.Test.YtigikgphipebiaaGreatDoorRi09
import Derived.Test.YtigikgphipebiaaGreatDoorRi21
import Derived.Test.YtigikgphipebiaaGreatDoorRi27
import Derived.Test.YtigikgphipebiaaGreatDoorRi32
/- Layer 14: the program's joinEach at Whole. -/
namespace Go.Proofs.YtigikgphipebiaaGreatDoor
set_option maxRecDepth 100000
open Go.RowKit
set_option linter.unusedVariables false
theorem hold10 {w w' : World} (hb : Below w.heap.size w w') {p0 p1 p2 p3 p4 p5 p6 p7 p8 p9 : Addr} {v0 v1 v2 v3 v4 v5 v6 v7 v8 v9 : Value}
    (h : w.cell? p0 = some v0 ∧ w.cell? p1 = some v1 ∧ w.cell? p2 = some v2 ∧ w.cell? p3 = some v3 ∧ w.cell? p4 = some v4 ∧ w.cell? p5 = some v5 ∧ w.cell? p6 = some v6 ∧ w.cell? p7 = some v7 ∧ w.cell? p8 = some v8 ∧ w.cell? p9 = some v9) :
    w'.cell? p0 = some v0 ∧ w'.cell? p1 = some v1 ∧ w'.cell? p2 = some v2 ∧ w'.cell? p3 = some v3 ∧ w'.cell? p4 = some v4 ∧ w'.cell? p5 = some v5 ∧ w'.cell? p6 = some v6 ∧ w'.cell? p7 = some v7 ∧ w'.cell? p8 = some v8 ∧ w'.cell? p9 = some v9 := by
  obtain ⟨h0, h1, h2, h3, h4, h5, h6, h7, h8, h9⟩ := h
  exact ⟨cell_later hb h0, cell_later hb h1, cell_later hb h2, cell_later hb h3, cell_later hb h4, cell_later hb h5, cell_later hb h6, cell_later hb h7, cell_later hb h8, cell_later hb h9⟩
theorem JWP.raw {x y : Wh} {w w' : World} {e : Ending} (h : JWP x y w e w') : ∃ (z0 z1 : Int) (lz : List Int) (z3 z4 : Int) (p : Option Addr) (c E : Nat), e = .returned (.tuple #[.agg #[.int .i64 z0, .int .i64 z1, .slice p lz.length c, .int .i64 z3, .int .i64 z4], .int .i64 E]) ∧ Below w.heap.size w w' ∧ ((okW x y = false ∧ E = 10) ∨ (okW x y = true ∧ E = 0 ∧ JW x y ⟨z0, z1, lz, z3, z4⟩)) ∧
    w'.ownsRow w.heap.size 27 1 (.slice p lz.length c) lz.length (lz.map (Value.int .u32)) := by
  obtain ⟨⟨z0, z1, lz, z3, z4⟩, q, E, rfl, h1, h2, h3⟩ := h
  obtain ⟨p, c, rfl⟩ := own_any14 h3
  exact ⟨z0, z1, lz, z3, z4, p, c, E, rfl, h1, h2, h3⟩
theorem kept_a14 {W w2 : World} {cs : Array Value} {T : TypeId} (hb : Below (W.alloc (.cells cs T)).drew.heap.size (W.alloc (.cells cs T)).drew w2) : w2.heap[W.heap.size]? = some (.cells cs T (0, 0)) ∧ Below W.heap.size W w2 :=
  ⟨(hb.block W.heap.size (by simp)).trans (heap_alloc_new W _), below_then (below_one _ _) (from_drew hb)⟩
theorem kept_b14 {W w2 : World} {cs : Array Value} {T : TypeId} (hb : Below (W.drew.alloc (.cells cs T)).heap.size (W.drew.alloc (.cells cs T)) w2) : w2.heap[W.heap.size]? = some (.cells cs T (0, 0)) ∧ Below W.heap.size W w2 :=
  ⟨(hb.block W.heap.size (by simp)).trans (heap_alloc_new W.drew _), from_drew (below_then (below_one _ _) hb)⟩
/-- A variable of a call's result, made ahead of the call or behind it. -/
def MadeAt14 (T : TypeId) (w : World) (M : Nat) (cs : Array Value) (wx : World) : Prop := wx.heap[M]? = some (.cells cs T (0, 0)) ∧ Below w.heap.size w wx ∧ w.heap.size ≤ M
theorem made_new14 {T : TypeId} {W w2 : World} {cs : Array Value} (hb : Below W.heap.size W w2) : MadeAt14 T W w2.heap.size cs (w2.alloc (.cells cs T)) := ⟨heap_alloc_new _ _, below_then hb (below_one _ _), hb.size⟩
theorem made_set5 {T : TypeId} {W w2 : World} {a b c d e a' b' c' d' e' : Value} (hM : w2.heap[W.heap.size]? = some (.cells #[a', b', c', d', e'] T (0, 0))) (hb : Below W.heap.size W w2) : MadeAt14 T W W.heap.size #[a, b, c, d, e] (set5 w2 W.heap.size a b c d e) := ⟨set5_box hM, set5_below hb (Nat.le_refl _), Nat.le_refl _⟩
theorem made_set3 {T : TypeId} {W w2 : World} {a b c a' b' c' : Value} (hM : w2.heap[W.heap.size]? = some (.cells #[a', b', c'] T (0, 0))) (hb : Below W.heap.size W w2) : MadeAt14 T W W.heap.size #[a, b, c] (set3 w2 W.heap.size a b c) := ⟨set3_box hM, set3_below hb (Nat.le_refl _), Nat.le_refl _⟩
def EachW (l m : List Wh) (w : World) (e : Ending) (w' : World) : Prop :=
  Below w.heap.size w w' ∧ (((∃ k, k < l.length ∧ okW (wg l k) (wg m k) = false) ∧ e = .returned (.tuple #[.slice none 0 0, .int .i64 10])) ∨
    ∃ v ps, e = .returned (.tuple #[v, .int .i64 0]) ∧ WsOwn w' w.heap.size v ps ∧ ps.length = l.length ∧ ∀ k, k < l.length → okW (wg l k) (wg m k) = true ∧ JW (wg l k) (wg m k) (wg (ps.map Prod.snd) k))
set_option maxHeartbeats 8000000 in
theorem jeachW_any (w : World) (u v : Value) (l m : List Wh) (hu : Wholes w u l) (hv : Wholes w v m) (hl : l.length = m.length) (h10 : l.length ≤ 10) (hw : ∀ x ∈ l, WhW x) (hw' : ∀ x ∈ m, WhW x) (hs : ∀ k, k < l.length → (wg l k).sq.length ≤ 1000 ∧ (wg m k).sq.length ≤ 1000) :
    Calls Tryz.prog 50 #[u, v, .func (.func 51) #[] #[]] w (EachW l m w) := by
  have HU := Lib.hid hu
  have HV := Lib.hid hv
  have HJ := Lib.hid (fun k (hk : k < l.length) w1 q r (hq : Ints .u32 w1 q (wg l k).sq) (hr : Ints .u32 w1 r (wg m k).sq) => jwhole_any w1 (wg l k) (wg m k) q r hq hr (by rw [wg_get hk]; exact hw _ (List.getElem_mem _)) (by rw [wg_get (show k < m.length by omega)]; exact hw' _ (List.getElem_mem _)) (hs k hk).1 (hs k hk).2)
  have HL := Lib.hid (And.intro hl h10)
  obtain ⟨i0, hi, hz0, hz1, hz2⟩ := info_parts Tryz.infoWhole
  unfold EachW
  obtain ⟨a, c, rfl, -⟩ := hu
  obtain ⟨a', c', rfl, -⟩ := hv
  clear hl h10 hw hw' hs
  go_enter Tryz.func50, Tryz.ntmps50
  go_wp2_with fail
  go_loopw [8, 15] (fun lv iv wr => ∃ (k : Nat) (ps : List (Value × Wh)), k ≤ l.length ∧ iv = .int .i64 k ∧ Hid (ps.length = k ∧ Below w.heap.size w wr ∧ WsOwn wr w.heap.size lv ps ∧ ∀ j, j < k → okW (wg l j) (wg m j) = true ∧ JW (wg l j) (wg m j) (wg (ps.map Prod.snd) j))) (fun _ iv _ => l.length - (intOf iv).toNat)
  case atStart => exact ⟨0, [], Nat.zero_le _, rfl, Lib.hid ⟨rfl, Below.refl _ _, WsOwn.nil _ _, fun j hj => by omega⟩⟩
  case round =>
    obtain ⟨k, ps, hk, rfl, HS⟩ := hrel
    have hmi : l.length ≤ 9223372036854775807 := by have := HL.out.2; omega
    by_cases hlk : k < l.length
    · have hlk' : (k : Int) < (l.length : Int) := by omega
      have hkb0 : k < m.length := by have := HL.out.1; omega
      have hkb : (k : Int) < (m.length : Int) := by omega
      obtain ⟨ba, oa, qa, rfl, hqa⟩ := (HU.out.below HS.out.2.1).at hlk
      obtain ⟨bb, ob, qb, rfl, hqb⟩ := (HV.out.below HS.out.2.1).at hkb0
      have hle : Hid (k + 1 ≤ l.length) := Lib.hid (by omega)
      have HJk := Lib.hid (HJ.out k hlk)
      have HGd := Lib.hid (fun j (hj : j < k + 1) (ps' : List (Value × Wh)) (hp : ps'.length = k) (p : Value × Wh) (hp2 : ∀ j, j < k → okW (wg l j) (wg m j) = true ∧ JW (wg l j) (wg m j) (wg (ps'.map Prod.snd) j)) (h : okW (wg l k) (wg m k) = true ∧ JW (wg l k) (wg m k) p.2) => show okW (wg l j) (wg m j) = true ∧ JW (wg l j) (wg m j) (wg ((ps' ++ [p]).map Prod.snd) j) from
        if e : j = k then by
          subst e
          have e2 : wg ((ps' ++ [p]).map Prod.snd) j = p.2 := by rw [wg_get (by simp [hp])]; simp [hp]
          rw [e2]; exact h
        else by
          have e2 : wg ((ps' ++ [p]).map Prod.snd) j = wg (ps'.map Prod.snd) j := by rw [wg_get (by simp [hp]; omega), wg_get (by simp [hp]; omega)]; simp [List.getElem_append_left, hp, show j < k by omega]
          rw [e2]; exact hp2 j (by omega))
      obtain ⟨f0, f1, f2, f3, f4, f5⟩ := hqa
      obtain ⟨g0, g1, g2, g3, g4, g5⟩ := hqb
      have HF5 := Lib.hid (And.intro f5 g5)
      have HJz := Lib.hid (fun z => show JW (wg l k) (wg m k) z → JW (wg l k) (wg m k) z from id)
      obtain ⟨xx, hxx⟩ : ∃ xx, wg l k = xx := ⟨_, rfl⟩
      obtain ⟨yy, hyy⟩ : ∃ yy, wg m k = yy := ⟨_, rfl⟩
      have HXY := Lib.hid (And.intro hxx hyy)
      rw [hxx] at f0 f1 f3 f4 HJk HF5
      rw [hyy] at g0 g1 g3 g4 HJk HF5
      clear hxx hyy HJz f5 g5
      obtain ⟨x0, x1, lx, x3, x4⟩ := xx
      obtain ⟨y0, y1, ly, y3, y4⟩ := yy
      have HF6 := Lib.hid HF5.out
      obtain ⟨⟨pa, pac, rfl, -, -⟩, pb, pbc, rfl, -, -⟩ := HF5.out
      dsimp only at f0 f1 f3 f4 g0 g1 g3 g4 HF6 HJk
      clear HF5
      go_upto_region 5 with fail
      have hHT0 := below_one wr (.cells #[.int .i64 x0, .int .i64 x1, .slice pa lx.length pac, .int .i64 x3, .int .i64 x4] 75)
      obtain ⟨hx0, hx1, hx2, hx3, hx4⟩ := row5 (heap_alloc_new wr (.cells #[.int .i64 x0, .int .i64 x1, .slice pa lx.length pac, .int .i64 x3, .int .i64 x4] 75))
      have hy0 := cell_later hHT0 g0
      have hy1 := cell_later hHT0 g1
      have hy2 := cell_later hHT0 g2
      have hy3 := cell_later hHT0 g3
      have hy4 := cell_later hHT0 g4
      have hblt : bb < wr.heap.size := World.block_lt_of_cell? _ _ g0
      have HT0 := Lib.hid hHT0
      have HB0 := Lib.hid (HS.out.2.1.trans (HT0.out.mono HS.out.2.1.size))
      have hk0 : (wr.alloc (.cells #[.int .i64 x0, .int .i64 x1, .slice pa lx.length pac, .int .i64 x3, .int .i64 x4] 75)).cell? ⟨wr.heap.size, 0, none⟩ = some (.int .i64 x0) ∧ (wr.alloc (.cells #[.int .i64 x0, .int .i64 x1, .slice pa lx.length pac, .int .i64 x3, .int .i64 x4] 75)).cell? ⟨wr.heap.size, 1, none⟩ = some (.int .i64 x1) ∧ (wr.alloc (.cells #[.int .i64 x0, .int .i64 x1, .slice pa lx.length pac, .int .i64 x3, .int .i64 x4] 75)).cell? ⟨wr.heap.size, 2, none⟩ = some (.slice pa lx.length pac) ∧ (wr.alloc (.cells #[.int .i64 x0, .int .i64 x1, .slice pa lx.length pac, .int .i64 x3, .int .i64 x4] 75)).cell? ⟨wr.heap.size, 3, none⟩ = some (.int .i64 x3) ∧ (wr.alloc (.cells #[.int .i64 x0, .int .i64 x1, .slice pa lx.length pac, .int .i64 x3, .int .i64 x4] 75)).cell? ⟨wr.heap.size, 4, none⟩ = some (.int .i64 x4) ∧ (wr.alloc (.cells #[.int .i64 x0, .int .i64 x1, .slice pa lx.length pac, .int .i64 x3, .int .i64 x4] 75)).cell? ⟨bb, ob + k * 5, none⟩ = some (.int .i64 y0) ∧ (wr.alloc (.cells #[.int .i64 x0, .int .i64 x1, .slice pa lx.length pac, .int .i64 x3, .int .i64 x4] 75)).cell? ⟨bb, ob + k * 5 + 1, none⟩ = some (.int .i64 y1) ∧ (wr.alloc (.cells #[.int .i64 x0, .int .i64 x1, .slice pa lx.length pac, .int .i64 x3, .int .i64 x4] 75)).cell? ⟨bb, ob + k * 5 + 2, none⟩ = some (.slice pb ly.length pbc) ∧ (wr.alloc (.cells #[.int .i64 x0, .int .i64 x1, .slice pa lx.length pac, .int .i64 x3, .int .i64 x4] 75)).cell? ⟨bb, ob + k * 5 + 3, none⟩ = some (.int .i64 y3) ∧ (wr.alloc (.cells #[.int .i64 x0, .int .i64 x1, .slice pa lx.length pac, .int .i64 x3, .int .i64 x4] 75)).cell? ⟨bb, ob + k * 5 + 4, none⟩ = some (.int .i64 y4) := ⟨hx0, hx1, hx2, hx3, hx4, hy0, hy1, hy2, hy3, hy4⟩
      clear hHT0 hx0 hx1 hx2 hx3 hx4 hy0 hy1 hy2 hy3 hy4 f0 g0 f1 g1 f2 g2 f3 g3 f4 g4
      have HWs : Hid (wr.heap.size + 1 = (wr.alloc (.cells #[.int .i64 x0, .int .i64 x1, .slice pa lx.length pac, .int .i64 x3, .int .i64 x4] 75)).heap.size) := Lib.hid (by simp)
      have HIn := Lib.hid (And.intro (HF6.out.1.below HT0.out) (HF6.out.2.below HT0.out))
      generalize wr.alloc (.cells #[.int .i64 x0, .int .i64 x1, .slice pa lx.length pac, .int .i64 x3, .int .i64 x4] 75) = W at *
      have HJz := Lib.hid (fun w1 (hb : Below W.heap.size W w1) => HJk.out w1 _ _ (HIn.out.1.below hb) (HIn.out.2.below hb))
      clear HJk HJ
      go_cut [11, 12] from 16 to 37 (fun v11 v12 wx => ∃ (M E : Nat) (z0 z1 : Int) (lz : List Int) (z3 z4 : Int) (pq : Option Addr) (cq : Nat), v11 = .pointer (some ⟨M, 0, none⟩) ∧ v12 = .int .i64 E ∧ Hid (MadeAt14 75 W M #[.int .i64 z0, .int .i64 z1, .slice pq lz.length cq, .int .i64 z3, .int .i64 z4] wx ∧ ((okW (wg l k) (wg m k) = false ∧ E = 10) ∨ (okW (wg l k) (wg m k) = true ∧ E = 0 ∧ JW (wg l k) (wg m k) ⟨z0, z1, lz, z3, z4⟩)) ∧ wx.ownsRow W.heap.size 27 1 (.slice pq lz.length cq) lz.length (lz.map (Value.int .u32))))
      case first =>
        have hk : W.drew.cell? ⟨wr.heap.size, 0, none⟩ = some (.int .i64 x0) ∧ W.drew.cell? ⟨wr.heap.size, 1, none⟩ = some (.int .i64 x1) ∧ W.drew.cell? ⟨wr.heap.size, 2, none⟩ = some (.slice pa lx.length pac) ∧ W.drew.cell? ⟨wr.heap.size, 3, none⟩ = some (.int .i64 x3) ∧ W.drew.cell? ⟨wr.heap.size, 4, none⟩ = some (.int .i64 x4) ∧ W.drew.cell? ⟨bb, ob + k * 5, none⟩ = some (.int .i64 y0) ∧ W.drew.cell? ⟨bb, ob + k * 5 + 1, none⟩ = some (.int .i64 y1) ∧ W.drew.cell? ⟨bb, ob + k * 5 + 2, none⟩ = some (.slice pb ly.length pbc) ∧ W.drew.cell? ⟨bb, ob + k * 5 + 3, none⟩ = some (.int .i64 y3) ∧ W.drew.cell? ⟨bb, ob + k * 5 + 4, none⟩ = some (.int .i64 y4) := hk0
        go_region_held3 (fun w' => w'.cell? ⟨wr.heap.size, 0, none⟩ = some (.int .i64 x0) ∧ w'.cell? ⟨wr.heap.size, 1, none⟩ = some (.int .i64 x1) ∧ w'.cell? ⟨wr.heap.size, 2, none⟩ = some (.slice pa lx.length pac) ∧ w'.cell? ⟨wr.heap.size, 3, none⟩ = some (.int .i64 x3) ∧ w'.cell? ⟨wr.heap.size, 4, none⟩ = some (.int .i64 x4) ∧ w'.cell? ⟨bb, ob + k * 5, none⟩ = some (.int .i64 y0) ∧ w'.cell? ⟨bb, ob + k * 5 + 1, none⟩ = some (.int .i64 y1) ∧ w'.cell? ⟨bb, ob + k * 5 + 2, none⟩ = some (.slice pb ly.length pbc) ∧ w'.cell? ⟨bb, ob + k * 5 + 3, none⟩ = some (.int .i64 y3) ∧ w'.cell? ⟨bb, ob + k * 5 + 4, none⟩ = some (.int .i64 y4)) (first | (with_reducible exact hk) | exact hold10 (by repeat' first | exact Below.refl _ _ | refine Below.drew ?_ | refine Below.alloc ?_ (by first | exact Nat.le_refl _ | exact hBw.size | (simp; done) | (simp; omega) | (have := hBw.size; simp; omega)) _ | refine Below.setCell ?_ (by first | exact Nat.le_refl _ | (simp; done) | (simp; omega)) _ | exact hBw) hk0)
          (first
            | (go_at_call 51; refine (HJz.out _ (by (repeat' first | exact Below.refl _ _ | refine Below.drew ?_ | refine Below.alloc ?_ (by first | exact Nat.le_refl _ | (simp; done) | (simp; omega)) _); done)).mono ?_; rintro e w2 hr; obtain ⟨z0, z1, lz, z3, z4, pq, cq, E, rfl, hb2, hj, ho⟩ := JWP.raw hr; (first | (have hBw : Below W.heap.size W w2 := from_drew hb2) | (obtain ⟨hMz, hBw⟩ := kept_a14 (W := W) (w2 := w2) (cs := #[.int .i64 0, .int .i64 0, .slice none 0 0, .int .i64 0, .int .i64 0]) (T := 75) hb2; have zf := free_of hMz; obtain ⟨e0, e1, e2, e3, e4⟩ := row5 hMz) | (obtain ⟨hMz, hBw⟩ := kept_b14 (W := W) (w2 := w2) (cs := #[.int .i64 0, .int .i64 0, .slice none 0 0, .int .i64 0, .int .i64 0]) (T := 75) hb2; have zf := free_of hMz; obtain ⟨e0, e1, e2, e3, e4⟩ := row5 hMz)); have hk := hold10 hBw hk0; have HJr := Lib.hid hj; rw [← HXY.out.1, ← HXY.out.2] at HJr; have HO2 := Lib.hid (own_low14 ho (B' := W.heap.size) (by simp)); clear hr hb2 hj ho))
        all_goals
          go_wp2_with fail
          go_meet
          first
            | (have h1 := made_set5 (a := .int .i64 z0) (b := .int .i64 z1) (c := .slice pq lz.length cq) (d := .int .i64 z3) (e := .int .i64 z4) hMz hBw; have h2 := set5_own (a := .int .i64 z0) (b := .int .i64 z1) (c := .slice pq lz.length cq) (d := .int .i64 z3) (e := .int .i64 z4) hMz (by decide) HO2.out; exact ⟨W.heap.size, E, z0, z1, lz, z3, z4, pq, cq, rfl, rfl, Lib.hid ⟨h1, HJr.out, h2⟩⟩)
            | (have h1 := made_new14 (T := 75) (cs := #[.int .i64 z0, .int .i64 z1, .slice pq lz.length cq, .int .i64 z3, .int .i64 z4]) hBw; have h2 := own_keep HO2.out (below_one w2 (.cells #[.int .i64 z0, .int .i64 z1, .slice pq lz.length cq, .int .i64 z3, .int .i64 z4] 75)); exact ⟨w2.heap.size, E, z0, z1, lz, z3, z4, pq, cq, rfl, rfl, Lib.hid ⟨h1, HJr.out, h2⟩⟩)
      case rest =>
        obtain ⟨M, E, z0, z1, lz, z3, z4, pq, cq, rfl, rfl, hC⟩ := hcut
        obtain ⟨e0, e1, e2, e3, e4⟩ := row5 hC.out.1.1
        have HBc := Lib.hid (HB0.out.trans (hC.out.1.2.1.mono HB0.out.size))
        have HWs := Lib.hid (HS.out.2.2.1.below (below_then HT0.out hC.out.1.2.1))
        have HOq := Lib.hid (own_low14 hC.out.2.2 (B' := w.heap.size) HB0.out.size)
        have HPs := Lib.hid HS.out.1
        have HJl := Lib.hid HS.out.2.2.2
        have HRs := Lib.hid hC.out.2.1
        clear hC hk0 HJz HXY HIn HF6 HT0
        rcases HRs.out with ⟨hok, rfl⟩ | ⟨hok, rfl, hJW⟩
        · have HR := Lib.hid HRs.out
          clear e0 e1 e2 e3 e4 HRs
          go_wp2_with fail
          go_ret2
          exact ⟨HBc.out, .inl ⟨⟨k, hlk, hok⟩, rfl⟩⟩
        · obtain ⟨pv, cv, rfl⟩ := own_any14 HWs.out.1
          clear HRs
          go_wp2_with (at_builtin; refine wpList_append_own _ rfl _ _ 38 rfl w.heap.size 75 i0 (.agg #[.int .i64 0, .int .i64 0, .slice none 0 0, .int .i64 0, .int .i64 0]) 5 56 Tryz.underlying38 hi hz0 hz1 hz2 zcells_whole (by decide) _ _ (cellsW ps) rfl (own_keep HWs.out.1 (below_one _ _)) ⟨wc.heap.size, 0, none⟩ 1 1 [.int .i64 z0, .int .i64 z1, .slice pq lz.length cq, .int .i64 z3, .int .i64 z4] rfl rfl (World.news_of_block (heap_alloc_new wc _)) (by intro u hu; simp at hu; rcases hu with rfl | rfl | rfl | rfl | rfl <;> rfl) (by have := HPs.out; have := HL.out.2; unfold maxLen; omega) (by have := HPs.out; have := HL.out.2; omega) (by have := HBc.out.size; simp; omega) ?_; intro v' w9 hown hgrow hiff; clear hiff; have HZ := Lib.hid (WsOwn.push (x := ⟨z0, z1, lz, z3, z4⟩) (HWs.out.below (below_one _ _)) (own_keep HOq.out (below_one _ _)) hown hgrow); have HB9 := Lib.hid (Below.grown (below_then HBc.out (below_one _ _)) hgrow (by have := HBc.out.size; simp; omega) (fun gg hg => (World.ownsRow.lt HWs.out.1 gg hg).1)); obtain ⟨pv', cv', rfl⟩ := own_any14 hown; clear hown hgrow)
          go_roundw
          case rel => exact ⟨k + 1, ps ++ [(.slice pq lz.length cq, ⟨z0, z1, lz, z3, z4⟩)], hle.out, by go_num, Lib.hid ⟨by simp [HPs.out], HB9.out, HZ.out, fun j hj => HGd.out j hj ps HPs.out (.slice pq lz.length cq, ⟨z0, z1, lz, z3, z4⟩) HJl.out ⟨hok, hJW⟩⟩⟩
          case measure => simp [intOf]; omega
    · have : k = l.length := by omega
      subst this
      have HF := Lib.hid HS.out
      obtain ⟨pv, cv, rfl⟩ := own_any14 HS.out.2.2.1.1
      clear HS hlk hk
      go_wp2_with fail
      go_ret2
      exact ⟨HF.out.2.1, .inr ⟨_, ps, rfl, HF.out.2.2.1, HF.out.1, HF.out.2.2.2⟩⟩
end Go.Proofs.YtigikgphipebiaaGreatDoor
/- Layer 14: the program's oneWhole, oneReal. -/
namespace Go.Proofs.YtigikgphipebiaaGreatDoor
set_option maxRecDepth 100000
open Go.RowKit
set_option linter.unusedVariables false
/-- What a cell has of one whole number, of one real one. -/
structure OW (x : Int) (z : Wh) : Prop where
  sum : z.sum = x
  abs : z.abs = (x.natAbs : Int)
  wd : Wd z.sq
  ty : Tidy z.sq
  sq : wv z.sq = x * x
  mn : z.mn = x
  mx : z.mx = x
structure OR (x : Nat) (z : Re) : Prop where
  sum : IsEnc (flagN x) (unitsI x) z.sum
  mn : z.mn = x
  mx : z.mx = x
theorem OW.same {x : Int} {z z' : Wh} (h : OW x z) (k : OW x z') : z = z' := by
  obtain ⟨a1, b1, c1, d1, e1⟩ := z
  obtain ⟨a2, b2, c2, d2, e2⟩ := z'
  have h1 := h.sum.trans k.sum.symm
  have h2 := h.abs.trans k.abs.symm
  have h3 := tidy_unique h.wd k.wd h.ty k.ty (h.sq.trans k.sq.symm)
  have h4 := h.mn.trans k.mn.symm
  have h5 := h.mx.trans k.mx.symm
  simp only at h1 h2 h3 h4 h5
  subst h1 h2 h3 h4 h5
  rfl
theorem OR.same {x : Nat} {z z' : Re} (h : OR x z) (k : OR x z') : z = z' := by
  obtain ⟨a1, b1, c1⟩ := z
  obtain ⟨a2, b2, c2⟩ := z'
  have h1 := h.sum.unique k.sum
  have h2 := h.mn.trans k.mn.symm
  have h3 := h.mx.trans k.mx.symm
  simp only at h1 h2 h3
  subst h1 h2 h3
  rfl
def OWP (x : Int) (w : World) (e : Ending) (w' : World) : Prop :=
  ∃ (z0 z1 : Int) (lz : List Int) (z3 z4 : Int) (p : Option Addr) (c E : Nat), e = .returned (.tuple #[.agg #[.int .i64 z0, .int .i64 z1, .slice p lz.length c, .int .i64 z3, .int .i64 z4], .int .i64 E]) ∧ Below w.heap.size w w' ∧ ((x = -9223372036854775808 ∧ E = 10) ∨ (x ≠ -9223372036854775808 ∧ E = 0 ∧ OW x ⟨z0, z1, lz, z3, z4⟩)) ∧
    w'.ownsRow w.heap.size 27 1 (.slice p lz.length c) lz.length (lz.map (Value.int .u32))
def ORP (x : Nat) (w : World) (e : Ending) (w' : World) : Prop :=
  ∃ (lz : List Int) (p : Option Addr) (c : Nat), e = .returned (.agg #[.slice p lz.length c, .float .f64 x, .float .f64 x]) ∧ Below w.heap.size w w' ∧ OR x ⟨lz, x, x⟩ ∧
    w'.ownsRow w.heap.size 5 1 (.slice p lz.length c) lz.length (lz.map (Value.int .u8))
set_option maxHeartbeats 4000000 in
theorem owhole_any (w : World) (x : Int) (hx : I64 x) : Calls Tryz.prog 35 #[.int .i64 x] w (OWP x w) := by
  have HA := Lib.hid (fun w1 => wabs_any x hx.1 hx.2 w1)
  have HO := Lib.hid (fun w1 => of_any' (x.natAbs : Int) (by omega) (by have := hx.1; have := hx.2; omega) w1)
  have HM := Lib.hid (fun w1 u a (h : WList w1 u a) (hl : a.length ≤ 2) => mulw_any u u a a w1 h h (by omega) (by omega))
  have hab : x = -9223372036854775808 ∧ (x.natAbs : Int) = 9223372036854775808 ∨ x ≠ -9223372036854775808 ∧ (x.natAbs : Int) ≤ 9223372036854775807 := by have := hx.1; have := hx.2; omega
  have hsq := Lib.hid (show (x.natAbs : Int) * (x.natAbs : Int) = x * x by rw [Int.natAbs_mul_self'])
  have HZ := Lib.hid (show (w.alloc (.cells #[.int .i64 0, .int .i64 0, .slice none 0 0, .int .i64 0, .int .i64 0] 75)).heap[w.heap.size]? = some (.cells #[.int .i64 0, .int .i64 0, .slice none 0 0, .int .i64 0, .int .i64 0] 75 (0, 0)) from heap_alloc_new w _)
  have HB := Lib.hid (below_one w (.cells #[.int .i64 0, .int .i64 0, .slice none 0 0, .int .i64 0, .int .i64 0] 75))
  have h0 : (0 : Int) ≤ (x.natAbs : Int) := by omega
  unfold OWP
  unfold Fresh at HO HM
  have HO5 := Lib.hid (fun (z : Wh) (h1 : z.sum = x) (h2 : z.abs = (x.natAbs : Int)) h3 h4 h5 h6 h7 => (⟨h1, h2, h3, h4, h5, h6, h7⟩ : OW x z))
  generalize OW x = OWx at *
  generalize hA : (x.natAbs : Int) = A at *
  clear hx hA
  go_enter Tryz.func35, Tryz.ntmps35
  go_upto_region 1 with fail
  generalize w.alloc (.cells #[.int .i64 0, .int .i64 0, .slice none 0 0, .int .i64 0, .int .i64 0] 75) = W at *
  obtain ⟨e0, e1, e2, e3, e4⟩ := row5 HZ.out
  have zf := free_of HZ.out
  have hlt : w.heap.size < W.heap.size := (Array.getElem?_eq_some_iff.1 HZ.out).1
  go_wp2_with fail
  refine (HA.out _).mono ?_; rintro e w1 ⟨rfl, rfl⟩
  rcases hab with ⟨hx, rfl⟩ | ⟨hx, hA⟩
  · have HB9 := Lib.hid (set5_below (R := w.heap.size) (a := .int .i64 0) (b := .int .i64 0) (c := .slice none 0 0) (d := .int .i64 0) (e := .int .i64 0) HB.out (Nat.le_refl _))
    have HZ9 := Lib.hid (set5_box (a := .int .i64 0) (b := .int .i64 0) (c := .slice none 0 0) (d := .int .i64 0) (e := .int .i64 0) HZ.out)
    clear HA HO HM hsq HO5
    go_wp2_with fail
    unfold set5 at HB9 HZ9
    obtain ⟨r0, r1, r2, r3, r4⟩ := row5 HZ9.out
    exact bodyPost_ret (v := .tuple #[.agg #[.int .i64 0, .int .i64 0, .slice none 0 0, .int .i64 0, .int .i64 0], .int .i64 10]) (by simp [results, Tryz.results35, go_sem, r0, r1, r2, r3, r4]) rfl ⟨0, 0, [], 0, 0, none, 0, 10, rfl, HB9.out, .inl ⟨hx, rfl⟩, own_wh0 _ _⟩
  · have hg : decide (A > 9223372036854775807) = false := decide_eq_false (by omega)
    have i1 : IntKind.i64.wrap A = A := IntWalk.i64_in _ (by omega)
    have i1' : wrap64 A = A := wrap64_in (by omega) (by omega)
    have HBS := Lib.hid (fun w2 (hb : Below W.heap.size W w2) => HB.out.trans (hb.mono HB.out.size))
    clear HA e0 e1 e2 e3 e4 zf
    go_wp2_with fail
    refine (HO.out _).mono ?_; rintro e w2 ⟨u, a, rfl, g1, g2, g3, g4, g5, g6⟩
    have HWL := Lib.hid (own_wlist g1 g2 (by omega))
    have HM2 := Lib.hid (HM.out _ _ _ HWL.out g5)
    rw [g4, hsq.out] at HM2
    have HW2 := Lib.hid g6
    obtain ⟨p, c, rfl⟩ := own_any14 g1
    clear g1 g2 g3 g4 g5 g6 HO HM
    go_wp2_with fail
    refine (HM2.out).mono ?_; rintro e w3 ⟨v, l, rfl, g1, g2, g3, g4, g5, g6⟩
    have hb3 := below_then HW2.out g6
    have hz3 := (hb3.block _ hlt).trans HZ.out
    obtain ⟨q, d, rfl⟩ := own_any14 g1
    have hB := set5_below (R := w.heap.size) (a := .int .i64 x) (b := .int .i64 A) (c := .slice q l.length d) (d := .int .i64 x) (e := .int .i64 x) (HBS.out _ hb3) (Nat.le_refl _)
    have hZ := set5_box (a := .int .i64 x) (b := .int .i64 A) (c := .slice q l.length d) (d := .int .i64 x) (e := .int .i64 x) hz3
    have hO := set5_own (a := .int .i64 x) (b := .int .i64 A) (c := .slice q l.length d) (d := .int .i64 x) (e := .int .i64 x) hz3 (by decide) (own_low14 g1 (B' := w.heap.size) (HBS.out _ HW2.out).size)
    unfold set5 at hB hZ hO
    have HB9 := Lib.hid hB
    have HZ9 := Lib.hid hZ
    have HO9 := Lib.hid hO
    have HG := Lib.hid (HO5.out ⟨x, A, l, x, x⟩ rfl rfl g2 g3 g4 rfl rfl)
    obtain ⟨e0, e1, e2, e3, e4⟩ := row5 hz3
    have zf := free_of hz3
    clear hB hZ hO g1 g2 g3 g4 g5 g6 hb3 hz3 HM2 HO5
    go_wp2_with fail
    obtain ⟨r0, r1, r2, r3, r4⟩ := row5 HZ9.out
    exact bodyPost_ret (v := .tuple #[.agg #[.int .i64 x, .int .i64 A, .slice q l.length d, .int .i64 x, .int .i64 x], .int .i64 0]) (by simp [results, Tryz.results35, go_sem, r0, r1, r2, r3, r4]) rfl ⟨_, _, _, _, _, _, _, 0, rfl, HB9.out, .inr ⟨hx, rfl, HG.out⟩, HO9.out⟩
set_option maxHeartbeats 4000000 in
theorem oreal_any (w : World) (x : Nat) (hx : W64 x) (hT : Tab w) (hT2 : Tab64 w) : Calls Tryz.prog 36 #[.float .f64 x] w (ORP x w) := by
  have hf : Fits (0 + unitsI x) := (Fewer.zero.add (fewer_one x hx)).fits (by decide)
  have HA := Lib.hid (fun w1 N (hs : SumAt w1 N 0 0) (ht : Tab64 w1) => padd_fit w1 N 0 x 0 hs hx ht hf)
  rw [Nat.zero_or, Int.zero_add] at HA
  have hsf := fun (w : World) (a : Addr) (m : Mode) (k : Nat) => run_store_f64 (P := Tryz.prog) (w := w) (a := a) (m := m) k
  have HZ := Lib.hid (show (w.alloc (.cells #[.slice none 0 0, .float .f64 0, .float .f64 0] 63)).heap[w.heap.size]? = some (.cells #[.slice none 0 0, .float .f64 0, .float .f64 0] 63 (0, 0)) from heap_alloc_new w _)
  have HB := Lib.hid (below_one w (.cells #[.slice none 0 0, .float .f64 0, .float .f64 0] 63))
  have HTb := Lib.hid (fun w1 (h : Below w.heap.size w w1) => And.intro (hT.call h) (hT2.call h))
  have HO5 := Lib.hid (fun (l : List Int) (h1 : IsEnc (flagN x) (unitsI x) l) => (⟨h1, rfl, rfl⟩ : OR x ⟨l, x, x⟩))
  unfold ORP
  unfold JoinP at HA
  generalize OR x = ORx at *
  generalize flagN x = fx at *
  generalize unitsI x = ux at *
  clear hT hT2 hf hx
  go_enter Tryz.func36, Tryz.ntmps36
  go_upto_region 1 with fail
  generalize w.alloc (.cells #[.slice none 0 0, .float .f64 0, .float .f64 0] 63) = W at *
  have hlt : w.heap.size < W.heap.size := (Array.getElem?_eq_some_iff.1 HZ.out).1
  go_wp2_with fail
  refine (xnew_any _).mono ?_; rintro e w1 ⟨rfl, rfl⟩
  have HW1 := Lib.hid (below_one W (.cells #[.slice none 0 0, .bool false, .int .u8 0, .bool true] 181))
  have HS1 := Lib.hid (sum_new W)
  have hN1 : W.heap.size < (W.alloc (.cells #[.slice none 0 0, .bool false, .int .u8 0, .bool true] 181)).heap.size := by simp
  generalize W.alloc (.cells #[.slice none 0 0, .bool false, .int .u8 0, .bool true] 181) = W1 at *
  have HA1 := Lib.hid (HA.out W1 _ HS1.out (HTb.out _ (HB.out.trans (HW1.out.mono HB.out.size))).2)
  clear HA
  go_wp2_with fail
  refine (HA1.out).mono ?_; rintro e w2 ⟨rfl, hs2, hg⟩
  have HW2 := Lib.hid (HW1.out.trans (grown_from hg (Nat.le_refl _) hN1))
  obtain ⟨l, hl⟩ := hs2.enc
  have HB2 := Lib.hid (HB.out.trans (HW2.out.mono HB.out.size))
  have HBy := Lib.hid (pbytes_any w2 W.heap.size _ _ l hs2 hl (HTb.out _ HB2.out).1)
  have HG := Lib.hid (HO5.out l hl)
  unfold BytesP5 at HBy
  clear hs2 hg hl HA1 HS1 HO5
  go_wp2_with fail
  refine (HBy.out).mono ?_; rintro e w3 ⟨⟨v, rfl, ho⟩, hb⟩
  have hb3 := HW2.out.trans (hb.mono HW2.out.size)
  have hz3 := (hb3.block _ hlt).trans HZ.out
  obtain ⟨q, d, rfl⟩ := own_any14 ho
  have hB := set3_below (R := w.heap.size) (a := .slice q l.length d) (b := .float .f64 x) (c := .float .f64 x) (HB.out.trans (hb3.mono HB.out.size)) (Nat.le_refl _)
  have hZ := set3_box (a := .slice q l.length d) (b := .float .f64 x) (c := .float .f64 x) hz3
  have hO := set3_own (a := .slice q l.length d) (b := .float .f64 x) (c := .float .f64 x) hz3 (by decide) (own_low14 ho (B' := w.heap.size) HB2.out.size)
  unfold set3 at hB hZ hO
  have HB9 := Lib.hid hB
  have HZ9 := Lib.hid hZ
  have HO9 := Lib.hid hO
  obtain ⟨e0, e1, e2⟩ := row3 hz3
  have zf := free_of hz3
  clear hB hZ hO hb hb3 hz3 ho HBy
  go_wp2_with fail
  obtain ⟨r0, r1, r2⟩ := row3 HZ9.out
  exact bodyPost_ret (v := .agg #[.slice q l.length d, .float .f64 x, .float .f64 x]) (by simp [results, Tryz.results36, go_sem, r0, r1, r2]) rfl ⟨_, _, _, rfl, HB9.out, HG.out, HO9.out⟩
end Go.Proofs.YtigikgphipebiaaGreatDoor
/- The writer's bytes. -/
namespace Go.Proofs.YtigikgphipebiaaGreatDoor
set_option maxRecDepth 100000
open Go.RowKit
set_option linter.unusedVariables false
/-- The three cells of a writer. -/
def Out3 (w : World) (N : Nat) (v : Value) (s : Nat) : Prop := w.heap[N]? = some (.cells #[v, .int .i64 s, .bool true] 190 (0, 0))
theorem Out3.reads {w : World} {N : Nat} {v : Value} {s : Nat} (h : Out3 w N v s) :
    w.cell? ⟨N, 0, none⟩ = some v ∧ w.cell? ⟨N, 1, none⟩ = some (.int .i64 s) ∧ w.cell? ⟨N, 2, none⟩ = some (.bool true) := by
  unfold Out3 at h
  refine ⟨by simp [World.cell?, h], by simp [World.cell?, h], by simp [World.cell?, h]⟩
theorem Out3.free {w : World} {N : Nat} {v : Value} {s : Nat} (h : Out3 w N v s) : w.frozen? ⟨N, 0, none⟩ = false ∧ w.frozen? ⟨N, 1, none⟩ = false := by
  unfold Out3 at h
  refine ⟨by simp [World.frozen?, h], by simp [World.frozen?, h]⟩
theorem Out3.lt {w : World} {N : Nat} {v : Value} {s : Nat} (h : Out3 w N v s) : N < w.heap.size := (Array.getElem?_eq_some_iff.1 h).1
theorem Out3.below {w w' : World} {N : Nat} {v : Value} {s : Nat} (h : Out3 w N v s) (hb : Below w.heap.size w w') : Out3 w' N v s := by
  unfold Out3; rw [hb.block N h.lt]; exact h
/-- The encodings that were kept, the last one first. -/
def Chain (w : World) : Value → List (List Int) → Prop
  | v, [] => v = .pointer none
  | v, e :: r => ∃ M d u, v = .pointer (some ⟨M, 0, none⟩) ∧ w.heap[M]? = some (.cells #[u, d] 192 (0, 0)) ∧ 0 < e.length ∧ Ints .u8 w d e ∧ Typed 5 w d ∧ Chain w u r
theorem Chain.below {w w' : World} (hb : Below w.heap.size w w') : ∀ {L : List (List Int)} {v : Value}, Chain w v L → Chain w' v L
  | [], _, h => h
  | e :: r, v, ⟨M, d, u, h1, h2, h0, h3, h4, h5⟩ => ⟨M, d, u, h1, by rw [hb.block M (Array.getElem?_eq_some_iff.1 h2).1]; exact h2, h0, h3.below hb, h4.below hb, h5.below hb⟩
theorem Chain.grown {w w' : World} {N : Nat} {x : Value} {s : Nat} (ho : Out3 w N x s) (hg : w.grownBy w' (some N)) : ∀ {L : List (List Int)} {v : Value}, Chain w v L → Chain w' v L
  | [], _, h => h
  | e :: r, v, ⟨M, d, u, h1, h2, h0, h3, h4, h5⟩ => by
    have hne : M ≠ N := by
      rintro rfl
      unfold Out3 at ho
      rw [h2] at ho
      simp only [Option.some.injEq, Obj.cells.injEq] at ho
      exact absurd ho.2.1 (by decide)
    refine ⟨M, d, u, h1, ?_, h0, h3.grown h4 ho (by decide) hg, h4.grown ho (by decide) hg, h5.grown ho hg⟩
    rw [hg.block M (Array.getElem?_eq_some_iff.1 h2).1 (by simpa using hne)]; exact h2
def catR : List (List Int) → List Int
  | [] => []
  | e :: r => catR r ++ e
/-- A writer of these encodings. -/
def OutAt (w : World) (N : Nat) (L : List (List Int)) : Prop := ∃ v, Out3 w N v (catR L).length ∧ Chain w v L
theorem OutAt.below {w w' : World} {N : Nat} {L : List (List Int)} (h : OutAt w N L) (hb : Below w.heap.size w w') : OutAt w' N L := by
  obtain ⟨v, h1, h2⟩ := h
  exact ⟨v, h1.below hb, h2.below hb⟩
theorem OutAt.lt {w : World} {N : Nat} {L : List (List Int)} (h : OutAt w N L) : N < w.heap.size := by obtain ⟨v, h1, h2⟩ := h; exact h1.lt
/-- An encoding more. -/
theorem OutAt.more {w : World} {N : Nat} {L : List (List Int)} {x : Value} {d : Value} {e : List Int} (h1 : Out3 w N x (catR L).length) (h2 : Chain w x L) (hd : Ints .u8 w d e) (ht : Typed 5 w d) (he : 0 < e.length) (o : Obj) (ho : o = .cells #[x, d] 192) (q : Int) (hq : q = (catR (e :: L)).length) :
    OutAt (((w.setCell ⟨N, 0, none⟩ (.pointer (some ⟨w.heap.size, 0, none⟩))).setCell ⟨N, 1, none⟩ (.int .i64 q)).alloc o) N (e :: L) ∧ w.grownBy (((w.setCell ⟨N, 0, none⟩ (.pointer (some ⟨w.heap.size, 0, none⟩))).setCell ⟨N, 1, none⟩ (.int .i64 q)).alloc o) (some N) := by
  subst ho hq
  have g := grown_then (grown_set w N 0 (.pointer (some ⟨w.heap.size, 0, none⟩))) (grown_set (w.setCell ⟨N, 0, none⟩ (.pointer (some ⟨w.heap.size, 0, none⟩))) N 1 (.int .i64 ((catR (e :: L)).length : Nat)))
  have e1 := heap_setCell_same _ N 0 _ _ (.pointer (some ⟨w.heap.size, 0, none⟩)) h1
  have e2 := heap_setCell_same _ N 1 _ _ (.int .i64 ((catR (e :: L)).length : Nat)) e1
  have hsz : ((w.setCell ⟨N, 0, none⟩ (.pointer (some ⟨w.heap.size, 0, none⟩))).setCell ⟨N, 1, none⟩ (.int .i64 ((catR (e :: L)).length : Nat))).heap.size = w.heap.size := by simp [World.setCell]
  have k2 := h2.grown h1 g
  have k3 := hd.grown ht h1 (by decide) g
  have k4 := ht.grown h1 (by decide) g
  generalize (w.setCell ⟨N, 0, none⟩ (.pointer (some ⟨w.heap.size, 0, none⟩))).setCell ⟨N, 1, none⟩ (.int .i64 ((catR (e :: L)).length : Nat)) = W at *
  have hb := below_one W (.cells #[x, d] 192)
  have hn := heap_alloc_new W (.cells #[x, d] 192)
  have k1 : Out3 W N (.pointer (some ⟨w.heap.size, 0, none⟩)) (catR (e :: L)).length := e2
  rw [hsz] at hn
  exact ⟨⟨_, k1.below hb, w.heap.size, d, x, rfl, hn, he, k3.below hb, k4.below hb, k2.below hb⟩, grown_then g (grown_below hb (some N))⟩
/-- A writer that was not made, or none. -/
def NoOut (w : World) (v : Value) : Prop := v = .pointer none ∨ ∃ N, v = .pointer (some ⟨N, 0, none⟩) ∧ w.heap[N]? = some (.cells #[.pointer none, .int .i64 0, .bool false] 190 (0, 0))
theorem NoOut.below {w w' : World} {v : Value} (h : NoOut w v) (hb : Below w.heap.size w w') : NoOut w' v := by
  rcases h with rfl | ⟨N, rfl, h⟩
  · exact .inl rfl
  · exact .inr ⟨N, rfl, by rw [hb.block N (Array.getElem?_eq_some_iff.1 h).1]; exact h⟩
set_option maxRecDepth 100000
open Go.RowKit
set_option linter.unusedVariables false
set_option maxRecDepth 100000
open Go.RowKit
set_option linter.unusedVariables false
def RowAt (w : World) (G : Nat) (zs : List Int) : Prop := w.heap[G]? = some (.cells (zs.map (Value.int .u8)).toArray 5 (0, 0))
theorem RowAt.own {w : World} {B G : Nat} {zs : List Int} (h : RowAt w G zs) (hB : B ≤ G) (hl : zs.length ≤ maxLen) : BOwn w B (.slice (some ⟨G, 0, none⟩) zs.length zs.length) zs :=
  ⟨by simp, .inr ⟨G, zs.length, _, rfl, hB, h, Nat.le_refl _, hl, by simp, by rw [Nat.mul_one]; exact List.take_of_length_le (by simp)⟩⟩
end Go.Proofs.YtigikgphipebiaaGreatDoor
/- Layer 11: what a schema's bytes are. -/
namespace Go.Proofs.YtigikgphipebiaaGreatDoor
set_option maxRecDepth 100000
open Go.RowKit
set_option linter.unusedVariables false
/-- A writer of these bytes. -/
def OutB (w : World) (N : Nat) (bs : List Int) : Prop := ∃ L, OutAt w N L ∧ catR L = bs
theorem OutB.below {w w' : World} {N : Nat} {bs : List Int} (h : OutB w N bs) (hb : Below w.heap.size w w') : OutB w' N bs := by
  obtain ⟨L, h1, h2⟩ := h
  exact ⟨L, h1.below hb, h2⟩
set_option maxRecDepth 100000
open Go.RowKit
set_option linter.unusedVariables false
set_option maxRecDepth 100000
open Go.RowKit
set_option linter.unusedVariables false
/-- What stands in memory while a schema is put: the writer, the variable that the closures hold, the schema's cells. -/
structure Pw (w w1 wr : World) (D I M V : Value) (bs : List Int) : Prop where
  o : OutB wr w1.heap.size bs
  m : wr.cell? ⟨w1.heap.size + 1, 0, none⟩ = some (.pointer (some ⟨w1.heap.size, 0, none⟩))
  k : wr.cell? ⟨w.heap.size, 0, none⟩ = some D ∧ wr.cell? ⟨w.heap.size, 1, none⟩ = some I ∧ wr.cell? ⟨w.heap.size, 2, none⟩ = some M ∧ wr.cell? ⟨w.heap.size, 3, none⟩ = some V
  g : Below w1.heap.size w1 wr
  lt : w.heap.size < w1.heap.size
theorem Pw.call {w w1 wr w' : World} {D I M V : Value} {bs bs' : List Int} (h : Pw w w1 wr D I M V bs) (ho : OutB w' w1.heap.size bs') (hg : wr.grownBy w' (some w1.heap.size)) : Pw w w1 w' D I M V bs' := by
  have hl := h.lt
  have q : ∀ j, (⟨w.heap.size, j, none⟩ : Addr).block ≠ w1.heap.size := fun j => by show w.heap.size ≠ _; omega
  exact ⟨ho, cell_grown hg h.m (by show w1.heap.size + 1 ≠ _; omega), ⟨cell_grown hg h.k.1 (q 0), cell_grown hg h.k.2.1 (q 1), cell_grown hg h.k.2.2.1 (q 2), cell_grown hg h.k.2.2.2 (q 3)⟩, below_grown h.g hg (Nat.le_refl _), hl⟩
set_option maxRecDepth 100000
open Go.RowKit
set_option linter.unusedVariables false
end Go.Proofs.YtigikgphipebiaaGreatDoor
