/- Contracts that the law leans on, pruned and merged: Aggm Aggn Aggq. -/
import Derived.Deep.CutRange
import Derived.Test.YtigikgphipebiaaGreatDoorRi25
import Derived.Test.YtigikgphipebiaaGreatDoorRi35
import Derived.Test.YtigikgphipebiaaGreatDoorRi37
/- Layer 14: the program's joinEach at Real. -/
namespace Go.Proofs.YtigikgphipebiaaGreatDoor
set_option maxRecDepth 100000
open Go.RowKit
set_option linter.unusedVariables false
theorem JRP.raw {x y : Re} {w w' : World} {e : Ending} (h : JRP x y w e w') : ∃ (lz : List Int) (z1 z2 : Nat) (p : Option Addr) (c E : Nat), e = .returned (.tuple #[.agg #[.slice p lz.length c, .float .f64 z1, .float .f64 z2], .int .i64 E]) ∧ Below w.heap.size w w' ∧ (rErr x y = E ∧ (E = 0 → JR x y ⟨lz, z1, z2⟩)) ∧
    w'.ownsRow w.heap.size 5 1 (.slice p lz.length c) lz.length (lz.map (Value.int .u8)) := by
  obtain ⟨⟨lz, z1, z2⟩, q, E, rfl, h1, h2, h3⟩ := h
  obtain ⟨p, c, rfl⟩ := own_any14 h3
  exact ⟨lz, z1, z2, p, c, E, rfl, h1, h2, h3⟩
def EachR (l m : List Re) (w : World) (e : Ending) (w' : World) : Prop :=
  Below w.heap.size w w' ∧ ((∃ k, k < l.length ∧ (∀ j, j < k → rErr (rg l j) (rg m j) = 0) ∧ rErr (rg l k) (rg m k) ≠ 0 ∧ e = .returned (.tuple #[.slice none 0 0, .int .i64 (rErr (rg l k) (rg m k))])) ∨
    ∃ v ps, e = .returned (.tuple #[v, .int .i64 0]) ∧ RsOwn w' w.heap.size v ps ∧ ps.length = l.length ∧ ∀ k, k < l.length → rErr (rg l k) (rg m k) = 0 ∧ JR (rg l k) (rg m k) (rg (ps.map Prod.snd) k))
set_option maxHeartbeats 8000000 in
theorem jeachR_any (w : World) (u v : Value) (l m : List Re) (hu : Reals w u l) (hv : Reals w v m) (hl : l.length = m.length) (h10 : l.length ≤ 10) (hw : ∀ x ∈ l, ReW x) (hw' : ∀ x ∈ m, ReW x) (hT : Tab w) :
    Calls Tryz.prog 52 #[u, v, .func (.func 53) #[] #[]] w (EachR l m w) := by
  have HU := Lib.hid hu
  have HV := Lib.hid hv
  have HJ := Lib.hid (fun k (hk : k < l.length) w1 (hb : Below w.heap.size w w1) q r (hq : Ints .u8 w1 q (rg l k).sum) (hr : Ints .u8 w1 r (rg m k).sum) => jreal_any w1 (rg l k) (rg m k) q r hq hr (by rw [rg_get hk]; exact hw _ (List.getElem_mem _)) (by rw [rg_get (show k < m.length by omega)]; exact hw' _ (List.getElem_mem _)) (hT.call hb))
  have HL := Lib.hid (And.intro hl h10)
  obtain ⟨i0, hi, hz0, hz1, hz2⟩ := info_parts Tryz.infoReal
  unfold EachR
  obtain ⟨a, c, rfl, -⟩ := hu
  obtain ⟨a', c', rfl, -⟩ := hv
  clear hl h10 hw hw' hT
  go_enter Tryz.func52, Tryz.ntmps52
  go_wp2_with fail
  go_loopw [8, 15] (fun lv iv wr => ∃ (k : Nat) (ps : List (Value × Re)), k ≤ l.length ∧ iv = .int .i64 k ∧ Hid (ps.length = k ∧ Below w.heap.size w wr ∧ RsOwn wr w.heap.size lv ps ∧ ∀ j, j < k → rErr (rg l j) (rg m j) = 0 ∧ JR (rg l j) (rg m j) (rg (ps.map Prod.snd) j))) (fun _ iv _ => l.length - (intOf iv).toNat)
  case atStart => exact ⟨0, [], Nat.zero_le _, rfl, Lib.hid ⟨rfl, Below.refl _ _, RsOwn.nil _ _, fun j hj => by omega⟩⟩
  case round =>
    obtain ⟨k, ps, hk, rfl, HS⟩ := hrel
    have hmi : l.length ≤ 9223372036854775807 := by have := HL.out.2; omega
    by_cases hlk : k < l.length
    · have hlk' : (k : Int) < (l.length : Int) := by omega
      have hkb0 : k < m.length := by have := HL.out.1; omega
      have hkb : (k : Int) < (m.length : Int) := by omega
      obtain ⟨ba, oa, qa, rfl, hqa⟩ := (HU.out.below HS.out.2.1).at hlk
      obtain ⟨bb, ob, qb, rfl, hqb⟩ := (HV.out.below HS.out.2.1).at hkb0
      have hle : Hid (k + 1 ≤ l.length) := Lib.hid (by omega)
      have HJk := Lib.hid (HJ.out k hlk)
      have HGd := Lib.hid (fun j (hj : j < k + 1) (ps' : List (Value × Re)) (hp : ps'.length = k) (p : Value × Re) (hp2 : ∀ j, j < k → rErr (rg l j) (rg m j) = 0 ∧ JR (rg l j) (rg m j) (rg (ps'.map Prod.snd) j)) (h : rErr (rg l k) (rg m k) = 0 ∧ JR (rg l k) (rg m k) p.2) => show rErr (rg l j) (rg m j) = 0 ∧ JR (rg l j) (rg m j) (rg ((ps' ++ [p]).map Prod.snd) j) from
        if e : j = k then by
          subst e
          have e2 : rg ((ps' ++ [p]).map Prod.snd) j = p.2 := by rw [rg_get (by simp [hp])]; simp [hp]
          rw [e2]; exact h
        else by
          have e2 : rg ((ps' ++ [p]).map Prod.snd) j = rg (ps'.map Prod.snd) j := by rw [rg_get (by simp [hp]; omega), rg_get (by simp [hp]; omega)]; simp [List.getElem_append_left, hp, show j < k by omega]
          rw [e2]; exact hp2 j (by omega))
      obtain ⟨f0, f1, f2, f5⟩ := hqa
      obtain ⟨g0, g1, g2, g5⟩ := hqb
      have HF5 := Lib.hid (And.intro f5 g5)
      have HJz := Lib.hid (fun z => show JR (rg l k) (rg m k) z → JR (rg l k) (rg m k) z from id)
      obtain ⟨xx, hxx⟩ : ∃ xx, rg l k = xx := ⟨_, rfl⟩
      obtain ⟨yy, hyy⟩ : ∃ yy, rg m k = yy := ⟨_, rfl⟩
      have HXY := Lib.hid (And.intro hxx hyy)
      rw [hxx] at f1 f2 HJk HF5
      rw [hyy] at g1 g2 HJk HF5
      clear hxx hyy HJz f5 g5
      obtain ⟨lx, x1, x2⟩ := xx
      obtain ⟨ly, y1, y2⟩ := yy
      have HF6 := Lib.hid HF5.out
      obtain ⟨⟨pa, pac, rfl, -, -⟩, pb, pbc, rfl, -, -⟩ := HF5.out
      dsimp only at f1 f2 g1 g2 HF6 HJk
      clear HF5
      have hsf := fun (w : World) (a : Addr) (m : Mode) (k : Nat) => run_store_f64 (P := Tryz.prog) (w := w) (a := a) (m := m) k
      go_upto_region 5 with fail
      have hHT0 := below_one wr (.cells #[.slice pa lx.length pac, .float .f64 x1, .float .f64 x2] 63)
      obtain ⟨hx0, hx1, hx2⟩ := row3 (heap_alloc_new wr (.cells #[.slice pa lx.length pac, .float .f64 x1, .float .f64 x2] 63))
      have hy0 := cell_later hHT0 g0
      have hy1 := cell_later hHT0 g1
      have hy2 := cell_later hHT0 g2
      have hblt : bb < wr.heap.size := World.block_lt_of_cell? _ _ g0
      have HT0 := Lib.hid hHT0
      have HB0 := Lib.hid (HS.out.2.1.trans (HT0.out.mono HS.out.2.1.size))
      have hk0 : (wr.alloc (.cells #[.slice pa lx.length pac, .float .f64 x1, .float .f64 x2] 63)).cell? ⟨wr.heap.size, 0, none⟩ = some (.slice pa lx.length pac) ∧ (wr.alloc (.cells #[.slice pa lx.length pac, .float .f64 x1, .float .f64 x2] 63)).cell? ⟨wr.heap.size, 1, none⟩ = some (.float .f64 x1) ∧ (wr.alloc (.cells #[.slice pa lx.length pac, .float .f64 x1, .float .f64 x2] 63)).cell? ⟨wr.heap.size, 2, none⟩ = some (.float .f64 x2) ∧ (wr.alloc (.cells #[.slice pa lx.length pac, .float .f64 x1, .float .f64 x2] 63)).cell? ⟨bb, ob + k * 3, none⟩ = some (.slice pb ly.length pbc) ∧ (wr.alloc (.cells #[.slice pa lx.length pac, .float .f64 x1, .float .f64 x2] 63)).cell? ⟨bb, ob + k * 3 + 1, none⟩ = some (.float .f64 y1) ∧ (wr.alloc (.cells #[.slice pa lx.length pac, .float .f64 x1, .float .f64 x2] 63)).cell? ⟨bb, ob + k * 3 + 2, none⟩ = some (.float .f64 y2) := ⟨hx0, hx1, hx2, hy0, hy1, hy2⟩
      clear hHT0 hx0 hx1 hx2 hy0 hy1 hy2 f0 g0 f1 g1 f2 g2
      have HWs : Hid (wr.heap.size + 1 = (wr.alloc (.cells #[.slice pa lx.length pac, .float .f64 x1, .float .f64 x2] 63)).heap.size) := Lib.hid (by simp)
      have HIn := Lib.hid (And.intro (HF6.out.1.below HT0.out) (HF6.out.2.below HT0.out))
      generalize wr.alloc (.cells #[.slice pa lx.length pac, .float .f64 x1, .float .f64 x2] 63) = W at *
      have HJz := Lib.hid (fun w1 (hb : Below W.heap.size W w1) => HJk.out w1 (below_then HB0.out hb) _ _ (HIn.out.1.below hb) (HIn.out.2.below hb))
      clear HJk HJ
      go_cut [11, 12] from 16 to 37 (fun v11 v12 wx => ∃ (M E : Nat) (lz : List Int) (z1 z2 : Nat) (pq : Option Addr) (cq : Nat), v11 = .pointer (some ⟨M, 0, none⟩) ∧ v12 = .int .i64 E ∧ Hid (MadeAt14 63 W M #[.slice pq lz.length cq, .float .f64 z1, .float .f64 z2] wx ∧ (rErr (rg l k) (rg m k) = E ∧ (E = 0 → JR (rg l k) (rg m k) ⟨lz, z1, z2⟩)) ∧ wx.ownsRow W.heap.size 5 1 (.slice pq lz.length cq) lz.length (lz.map (Value.int .u8))))
      case first =>
        have hk : W.drew.cell? ⟨wr.heap.size, 0, none⟩ = some (.slice pa lx.length pac) ∧ W.drew.cell? ⟨wr.heap.size, 1, none⟩ = some (.float .f64 x1) ∧ W.drew.cell? ⟨wr.heap.size, 2, none⟩ = some (.float .f64 x2) ∧ W.drew.cell? ⟨bb, ob + k * 3, none⟩ = some (.slice pb ly.length pbc) ∧ W.drew.cell? ⟨bb, ob + k * 3 + 1, none⟩ = some (.float .f64 y1) ∧ W.drew.cell? ⟨bb, ob + k * 3 + 2, none⟩ = some (.float .f64 y2) := hk0
        go_region_held3 (fun w' => w'.cell? ⟨wr.heap.size, 0, none⟩ = some (.slice pa lx.length pac) ∧ w'.cell? ⟨wr.heap.size, 1, none⟩ = some (.float .f64 x1) ∧ w'.cell? ⟨wr.heap.size, 2, none⟩ = some (.float .f64 x2) ∧ w'.cell? ⟨bb, ob + k * 3, none⟩ = some (.slice pb ly.length pbc) ∧ w'.cell? ⟨bb, ob + k * 3 + 1, none⟩ = some (.float .f64 y1) ∧ w'.cell? ⟨bb, ob + k * 3 + 2, none⟩ = some (.float .f64 y2)) (first | (with_reducible exact hk) | exact hold6 (by repeat' first | exact Below.refl _ _ | refine Below.drew ?_ | refine Below.alloc ?_ (by first | exact Nat.le_refl _ | exact hBw.size | (simp; done) | (simp; omega) | (have := hBw.size; simp; omega)) _ | refine Below.setCell ?_ (by first | exact Nat.le_refl _ | (simp; done) | (simp; omega)) _ | exact hBw) hk0)
          (first
            | (go_at_call 53; refine (HJz.out _ (by (repeat' first | exact Below.refl _ _ | refine Below.drew ?_ | refine Below.alloc ?_ (by first | exact Nat.le_refl _ | (simp; done) | (simp; omega)) _); done)).mono ?_; rintro e w2 hr; obtain ⟨lz, z1, z2, pq, cq, E, rfl, hb2, hj, ho⟩ := JRP.raw hr; (first | (have hBw : Below W.heap.size W w2 := from_drew hb2) | (obtain ⟨hMz, hBw⟩ := kept_a14 (W := W) (w2 := w2) (cs := #[.slice none 0 0, .float .f64 0, .float .f64 0]) (T := 63) hb2; have zf := free_of hMz; obtain ⟨e0, e1, e2⟩ := row3 hMz) | (obtain ⟨hMz, hBw⟩ := kept_b14 (W := W) (w2 := w2) (cs := #[.slice none 0 0, .float .f64 0, .float .f64 0]) (T := 63) hb2; have zf := free_of hMz; obtain ⟨e0, e1, e2⟩ := row3 hMz)); have hk := hold6 hBw hk0; have HJr := Lib.hid hj; rw [← HXY.out.1, ← HXY.out.2] at HJr; have HO2 := Lib.hid (own_low14 ho (B' := W.heap.size) (by simp)); clear hr hb2 hj ho))
        all_goals
          go_wp2_with fail
          go_meet
          first
            | (have h1 := made_set3 (a := .slice pq lz.length cq) (b := .float .f64 z1) (c := .float .f64 z2) hMz hBw; have h2 := set3_own (a := .slice pq lz.length cq) (b := .float .f64 z1) (c := .float .f64 z2) hMz (by decide) HO2.out; exact ⟨W.heap.size, E, lz, z1, z2, pq, cq, rfl, rfl, Lib.hid ⟨h1, HJr.out, h2⟩⟩)
            | (have h1 := made_new14 (T := 63) (cs := #[.slice pq lz.length cq, .float .f64 z1, .float .f64 z2]) hBw; have h2 := own_keep HO2.out (below_one w2 (.cells #[.slice pq lz.length cq, .float .f64 z1, .float .f64 z2] 63)); exact ⟨w2.heap.size, E, lz, z1, z2, pq, cq, rfl, rfl, Lib.hid ⟨h1, HJr.out, h2⟩⟩)
      case rest =>
        obtain ⟨M, E, lz, z1, z2, pq, cq, rfl, rfl, hC⟩ := hcut
        obtain ⟨e0, e1, e2⟩ := row3 hC.out.1.1
        have HBc := Lib.hid (HB0.out.trans (hC.out.1.2.1.mono HB0.out.size))
        have HWs := Lib.hid (HS.out.2.2.1.below (below_then HT0.out hC.out.1.2.1))
        have HOq := Lib.hid (own_low14 hC.out.2.2 (B' := w.heap.size) HB0.out.size)
        have HPs := Lib.hid HS.out.1
        have HJl := Lib.hid HS.out.2.2.2
        have HRs := Lib.hid hC.out.2.1
        clear hC hk0 HJz HXY HIn HF6 HT0
        have hre := HRs.out.1
        have HRt := Lib.hid HRs.out
        by_cases hE : E = 0
        rotate_left
        have hne : ((E : Int) != 0) = true := by simp [hE]
        rotate_left
        rotate_left
        · have HR := Lib.hid HRs.out
          clear e0 e1 e2 HRs
          go_wp2_with fail
          go_ret2
          exact ⟨HBc.out, .inl ⟨k, hlk, fun j hj => (HJl.out j hj).1, by rw [hre]; exact hE, by rw [hre]; rfl⟩⟩
        · obtain ⟨pv, cv, rfl⟩ := own_any14 HWs.out.1
          clear HRs
          go_wp2_with (at_builtin; refine wpList_append_own _ rfl _ _ 39 rfl w.heap.size 63 i0 (.agg #[.slice none 0 0, .float .f64 0, .float .f64 0]) 3 40 Tryz.underlying39 hi hz0 hz1 hz2 zcells_real (by decide) _ _ (cellsR ps) rfl (own_keep HWs.out.1 (below_one _ _)) ⟨wc.heap.size, 0, none⟩ 1 1 [.slice pq lz.length cq, .float .f64 z1, .float .f64 z2] rfl rfl (World.news_of_block (heap_alloc_new wc _)) (by intro u hu; simp at hu; rcases hu with rfl | rfl | rfl <;> rfl) (by have := HPs.out; have := HL.out.2; unfold maxLen; omega) (by have := HPs.out; have := HL.out.2; omega) (by have := HBc.out.size; simp; omega) ?_; intro v' w9 hown hgrow hiff; clear hiff; have HZ := Lib.hid (RsOwn.push (x := ⟨lz, z1, z2⟩) (HWs.out.below (below_one _ _)) (own_keep HOq.out (below_one _ _)) hown hgrow); have HB9 := Lib.hid (Below.grown (below_then HBc.out (below_one _ _)) hgrow (by have := HBc.out.size; simp; omega) (fun gg hg => (World.ownsRow.lt HWs.out.1 gg hg).1)); obtain ⟨pv', cv', rfl⟩ := own_any14 hown; clear hown hgrow)
          go_roundw
          case rel => exact ⟨k + 1, ps ++ [(.slice pq lz.length cq, ⟨lz, z1, z2⟩)], hle.out, by go_num, Lib.hid ⟨by simp [HPs.out], HB9.out, HZ.out, fun j hj => HGd.out j hj ps HPs.out (.slice pq lz.length cq, ⟨lz, z1, z2⟩) HJl.out ⟨hre.trans hE, HRt.out.2 hE⟩⟩⟩
          case measure => simp [intOf]; omega
    · have : k = l.length := by omega
      subst this
      have HF := Lib.hid HS.out
      obtain ⟨pv, cv, rfl⟩ := own_any14 HS.out.2.2.1.1
      clear HS hlk hk
      go_wp2_with fail
      go_ret2
      exact ⟨HF.out.2.1, .inr ⟨_, ps, rfl, HF.out.2.2.1, HF.out.1, HF.out.2.2.2⟩⟩
end Go.Proofs.YtigikgphipebiaaGreatDoor
/- Layer 14: the program's Join. -/
namespace Go.Proofs.YtigikgphipebiaaGreatDoor
set_option maxRecDepth 100000
open Go.RowKit
set_option linter.unusedVariables false
/-- What is put together: the program's Join and the reference's have one answer. -/
theorem pj_no {a b : Ce} {w w' : World} {k : Nat} (h : errJ a b = k) (hk : k ≠ 0) (hb : Below w.heap.size w w') : RJ14 a b w (.returned (.tuple #[.agg #[.int .u64 0, .int .i64 0, .slice none 0 0, .slice none 0 0], .int .i64 k])) w' := rj_no h hk hb
set_option maxHeartbeats 8000000 in
theorem pjoin14_any (w : World) (a b : Ce) (I N I' N' : Value) (h : CeM w I N a) (h' : CeM w I' N' b) (ha : CeW a) (hb : CeW b) (sa : ShortC 1000 a) (sb : ShortC 1000 b) (hT : Tab w) :
    Calls Tryz.prog 20 #[CeV a I N, CeV b I' N'] w (RJ14 a b w) := by
  obtain ⟨b1, b2, b3, b4⟩ := boxes_two (w := w) (T := 41) (cs := #[.int .u64 a.key, .int .i64 a.cnt, I, N]) (ds := #[.int .u64 b.key, .int .i64 b.cnt, I', N']) (es := #[.int .u64 0, .int .i64 0, .slice none 0 0, .slice none 0 0])
  have HB := Lib.hid b4
  have HX := Lib.hid b1
  have HY := Lib.hid b2
  have HZ := Lib.hid b3
  have HEW := Lib.hid (fun w1 (hb1 : Below w.heap.size w w1) (hl : a.is.length = b.is.length) => jeachW_any w1 I I' a.is b.is (h.i.below hb1) (h'.i.below hb1) hl sa.li ha.is hb.is (fun k hk => ⟨sa.sq k hk, sb.sq k (by omega)⟩))
  have HER := Lib.hid (fun w1 (hb1 : Below w.heap.size w w1) (hl : a.ns.length = b.ns.length) => jeachR_any w1 N N' a.ns b.ns (h.n.below hb1) (h'.n.below hb1) hl sa.ln ha.ns hb.ns (hT.call hb1))
  have HAd := Lib.hid (fun w1 => wadd_any a.cnt b.cnt ha.cnt.1 ha.cnt.2 hb.cnt.1 hb.cnt.2 w1)
  have HArg := Lib.hid (@errJ_arg a b)
  have HOv := Lib.hid (@errJ_over a b)
  have HRe := Lib.hid (@errJ_real a b)
  have HCl := Lib.hid (show fitB (a.cnt + b.cnt) = true → clip (a.cnt + b.cnt) = a.cnt + b.cnt from fun h => by simp [clip, h])
  have HM := Lib.hid (And.intro sa.li sa.ln)
  obtain ⟨⟨p, k1, rfl⟩, p2, k2, rfl⟩ := h.slices
  obtain ⟨⟨p', k1', rfl⟩, p2', k2', rfl⟩ := h'.slices
  unfold EachW at HEW
  unfold EachR at HER
  clear h h' ha hb sa sb hT b1 b2 b3 b4
  go_enter Tryz.func20, Tryz.ntmps20
  go_upto_region 1 with fail
  generalize ((w.alloc (CeO a (.slice p a.is.length k1) (.slice p2 a.ns.length k2))).alloc (CeO b (.slice p' b.is.length k1') (.slice p2' b.ns.length k2'))).alloc (.cells #[.int .u64 0, .int .i64 0, .slice none 0 0, .slice none 0 0] 41) = W at *
  obtain ⟨⟨x0, x1, x2, x3⟩, -⟩ := box_reads HX.out
  obtain ⟨⟨y0, y1, y2, y3⟩, -⟩ := box_reads HY.out
  obtain ⟨⟨z0, z1, z2, z3⟩, zf⟩ := box_reads HZ.out
  have hlt : w.heap.size + 1 + 1 < W.heap.size := (Array.getElem?_eq_some_iff.1 HZ.out).1
  -- how a call that is refused ends
  have HNo := Lib.hid (fun (w9 : World) (k : Nat) (hb9 : Below W.heap.size W w9) (he : errJ a b = k) (hk : k ≠ 0) => And.intro (set4_box (k' := 0) (n' := 0) (I' := .slice none 0 0) (N' := .slice none 0 0) ((hb9.block _ hlt).trans HZ.out)) (pj_no he hk (set4_below (R := w.heap.size + 1 + 1) (k' := 0) (n' := 0) (I' := .slice none 0 0) (N' := .slice none 0 0) (HB.out.trans (hb9.mono HB.out.size)) (by omega))))
  unfold set4 at HNo
  have hcases : (a.key != b.key) = true ∨ ((a.key != b.key) = false ∧ ((a.is.length : Int) != (b.is.length : Int)) = true) ∨ ((a.key != b.key) = false ∧ ((a.is.length : Int) != (b.is.length : Int)) = false ∧ ((a.ns.length : Int) != (b.ns.length : Int)) = true) ∨ ((a.key != b.key) = false ∧ ((a.is.length : Int) != (b.is.length : Int)) = false ∧ ((a.ns.length : Int) != (b.ns.length : Int)) = false) := by
    cases (a.key != b.key) <;> cases ((a.is.length : Int) != (b.is.length : Int)) <;> cases ((a.ns.length : Int) != (b.ns.length : Int)) <;> simp
  rcases hcases with e1 | ⟨e1, e2⟩ | ⟨e1, e2, e3⟩ | ⟨e1, e2, e3⟩
  · have HR := Lib.hid (HNo.out _ 1 (Below.refl _ _) (HArg.out (fun q => by simp at e1; exact e1 q.1)) (by decide))
    clear HEW HER HNo
    go_wp2_with fail
    obtain ⟨⟨r0, r1, r2, r3⟩, -⟩ := box_reads HR.out.1
    exact bodyPost_ret (v := .tuple #[.agg #[.int .u64 0, .int .i64 0, .slice none 0 0, .slice none 0 0], .int .i64 1]) (by simp [results, Tryz.results20, go_sem, r0, r1, r2, r3]) rfl HR.out.2
  · have HR := Lib.hid (HNo.out _ 1 (Below.refl _ _) (HArg.out (fun q => by simp at e2; omega)) (by decide))
    clear HEW HER HNo
    go_wp2_with fail
    obtain ⟨⟨r0, r1, r2, r3⟩, -⟩ := box_reads HR.out.1
    exact bodyPost_ret (v := .tuple #[.agg #[.int .u64 0, .int .i64 0, .slice none 0 0, .slice none 0 0], .int .i64 1]) (by simp [results, Tryz.results20, go_sem, r0, r1, r2, r3]) rfl HR.out.2
  · have HR := Lib.hid (HNo.out _ 1 (Below.refl _ _) (HArg.out (fun q => by simp at e3; omega)) (by decide))
    clear HEW HER HNo
    go_wp2_with fail
    obtain ⟨⟨r0, r1, r2, r3⟩, -⟩ := box_reads HR.out.1
    exact bodyPost_ret (v := .tuple #[.agg #[.int .u64 0, .int .i64 0, .slice none 0 0, .slice none 0 0], .int .i64 1]) (by simp [results, Tryz.results20, go_sem, r0, r1, r2, r3]) rfl HR.out.2
  · have HL := Lib.hid (show a.key = b.key ∧ a.is.length = b.is.length ∧ a.ns.length = b.ns.length by simp at e1 e2 e3; exact ⟨e1, by omega, by omega⟩)
    have HOv2 := Lib.hid (HOv.out HL.out)
    have HRe2 := Lib.hid (HRe.out HL.out)
    clear HOv HRe HArg
    go_wp2_with fail
    refine (HAd.out _).mono ?_; rintro e w1 ⟨rfl, rfl⟩
    generalize hft : fitB (a.cnt + b.cnt) = ft at *
    cases ft with
    | false =>
      have HR := Lib.hid (HNo.out _ 10 (Below.refl _ _) (HOv2.out (fun q => by cases q.1)) (by decide))
      clear HEW HER HNo
      go_wp2_with fail
      obtain ⟨⟨r0, r1, r2, r3⟩, -⟩ := box_reads HR.out.1
      exact bodyPost_ret (v := .tuple #[.agg #[.int .u64 0, .int .i64 0, .slice none 0 0, .slice none 0 0], .int .i64 10]) (by simp [results, Tryz.results20, go_sem, r0, r1, r2, r3]) rfl HR.out.2
    | true =>
      have hcl := HCl.out rfl
      rw [hcl]
      have HCN : Hid (∃ q, a.cnt + b.cnt = q) := Lib.hid ⟨_, rfl⟩
      generalize hcn : a.cnt + b.cnt = cn at *
      replace HCN := Lib.hid hcn
      clear hcl HCl hcn
      go_wp2_with fail
      refine (HEW.out _ HB.out HL.out.2.1).mono ?_; rintro e w2 ⟨hb2, hr⟩
      have HW2 := Lib.hid hb2
      have HB2 := Lib.hid (below_then HB.out hb2)
      have x0 := cell_later hb2 x0
      have x3 := cell_later hb2 x3
      have y3 := cell_later hb2 y3
      have hz2 := (hb2.block _ hlt).trans HZ.out
      clear hb2 z0 z1 z2 z3 zf x1 x2 y0 y1 y2
      obtain ⟨⟨z0, z1, z2, z3⟩, zf⟩ := box_reads hz2
      rcases hr with ⟨⟨k, hk, hok⟩, rfl⟩ | ⟨v, ps, rfl, hzv, hzl, hzj⟩
      · have HR := Lib.hid (HNo.out _ 10 HW2.out (HOv2.out (fun q => by have := q.2 k hk; rw [hok] at this; cases this)) (by decide))
        clear HEW HER HNo hz2
        go_wp2_with fail
        obtain ⟨⟨r0, r1, r2, r3⟩, -⟩ := box_reads HR.out.1
        exact bodyPost_ret (v := .tuple #[.agg #[.int .u64 0, .int .i64 0, .slice none 0 0, .slice none 0 0], .int .i64 10]) (by simp [results, Tryz.results20, go_sem, r0, r1, r2, r3]) rfl HR.out.2
      · have HRe3 := Lib.hid (HRe2.out ⟨by trivial, fun k hk => (hzj k hk).1⟩)
        have HZV := Lib.hid (And.intro hzv (And.intro hzl (fun k hk => (hzj k hk).2)))
        obtain ⟨pv, cv, rfl⟩ := own_any14 hzv.1
        clear hzv hzl hzj HOv2 HRe2 hz2
        go_wp2_with fail
        refine (HER.out _ HB2.out HL.out.2.2).mono ?_; rintro e w3 ⟨hb3, hr⟩
        have HW3 := Lib.hid (below_then HW2.out hb3)
        have HB3 := Lib.hid (below_then HB2.out hb3)
        have x0 := cell_later hb3 x0
        have hz3 := (HW3.out.block _ hlt).trans HZ.out
        have HZV3 := Lib.hid (HZV.out.1.below hb3)
        clear hb3 z0 z1 z2 z3 zf x3 y3
        obtain ⟨⟨z0, z1, z2, z3⟩, zf⟩ := box_reads hz3
        rcases hr with ⟨k, hk, hj, hne, rfl⟩ | ⟨v2, rs, rfl, hzv, hzl, hzj⟩
        · have hE := HRe3.out.trans (first_at (f := fun k => rErr (rg a.ns k) (rg b.ns k)) hj hne _ hk)
          have HR := Lib.hid (HNo.out _ _ HW3.out hE hne)
          have hn : ((rErr (rg a.ns k) (rg b.ns k) : Int) != 0) = true := by simp [hne]
          clear HEW HER HNo hz3 hE hj
          generalize rErr (rg a.ns k) (rg b.ns k) = E at *
          clear hne
          go_wp2_with fail
          obtain ⟨⟨r0, r1, r2, r3⟩, -⟩ := box_reads HR.out.1
          exact bodyPost_ret (v := .tuple #[.agg #[.int .u64 0, .int .i64 0, .slice none 0 0, .slice none 0 0], .int .i64 E]) (by simp [results, Tryz.results20, go_sem, r0, r1, r2, r3]) rfl HR.out.2
        · have hE := HRe3.out.trans (first_zero (f := fun k => rErr (rg a.ns k) (rg b.ns k)) _ (fun k hk => (hzj k hk).1))
          have HJC := Lib.hid (show JC a b ⟨a.key, cn, ps.map Prod.snd, rs.map Prod.snd⟩ from ⟨rfl, HCN.out.symm, by simp [HZV.out.2.1], by simp [hzl], HZV.out.2.2, fun k hk => (hzj k hk).2⟩)
          obtain ⟨pv2, cv2, rfl⟩ := own_any14 hzv.1
          have hS := set4_box (k' := a.key) (n' := cn) (I' := .slice pv ps.length cv) (N' := .slice pv2 rs.length cv2) hz3
          have hB := set4_below (R := w.heap.size + 1 + 1) (k' := a.key) (n' := cn) (I' := .slice pv ps.length cv) (N' := .slice pv2 rs.length cv2) HB3.out (by omega)
          have hW := set4_ws (k' := a.key) (n' := cn) (I' := .slice pv ps.length cv) (N' := .slice pv2 rs.length cv2) hz3 (by decide) (by decide) HZV3.out
          have hR := set4_rs (k' := a.key) (n' := cn) (I' := .slice pv ps.length cv) (N' := .slice pv2 rs.length cv2) hz3 (by decide) (by decide) hzv
          unfold set4 at hS hB hW hR
          have HS := Lib.hid hS
          have HBS := Lib.hid hB
          have HWS := Lib.hid hW
          have HRS := Lib.hid hR
          have HE := Lib.hid hE
          clear HEW HER HNo hzv hzl hzj hE hz3 hS hB hW hR
          go_wp2_with fail
          obtain ⟨⟨r0, r1, r2, r3⟩, -⟩ := box_reads HS.out
          exact bodyPost_ret (v := .tuple #[CeV ⟨a.key, cn, ps.map Prod.snd, rs.map Prod.snd⟩ (.slice pv ps.length cv) (.slice pv2 rs.length cv2), .int .i64 0]) (by simp [results, Tryz.results20, go_sem, r0, r1, r2, r3]) rfl ⟨_, _, _, by rw [HE.out]; rfl, ⟨HWS.out.wholes, HRS.out.reals⟩, fun _ => HJC.out, fun q => absurd HE.out q, HBS.out⟩
end Go.Proofs.YtigikgphipebiaaGreatDoor
/- Layer 14: the cell of a fact is a cell; the chapter's example. -/
namespace Go.Proofs.YtigikgphipebiaaGreatDoor
set_option maxRecDepth 100000
open Go.RowKit
set_option linter.unusedVariables false
theorem OW.len {x : Int} {z : Wh} (h : OW x z) (hx : I64 x) : z.sq.length ≤ 4 := by
  refine h.ty.wlen h.wd ?_
  rw [h.sq]
  have h1 : x * x = (x.natAbs : Int) * (x.natAbs : Int) := (Int.natAbs_mul_self' x).symm
  have h2 : (x.natAbs : Int) ≤ 9223372036854775808 := by have := hx.1; have := hx.2; omega
  have h3 : (x.natAbs : Int) * (x.natAbs : Int) ≤ 9223372036854775808 * 9223372036854775808 := Int.mul_le_mul h2 h2 (by omega) (by decide)
  rw [h1]
  exact Int.lt_of_le_of_lt h3 (by decide)
theorem OW.w {x : Int} {z : Wh} (h : OW x z) (hx : I64 x) (h0 : x ≠ -9223372036854775808) : WhW z where
  sum := by rw [h.sum]; exact hx
  abs := by rw [h.abs]; have := hx.1; have := hx.2; unfold I64; omega
  sq := h.wd
  len := by have := h.len hx; omega
  mn := by rw [h.mn]; exact hx
  mx := by rw [h.mx]; exact hx
theorem flag_lt14 (x : Nat) : flagN x < 32 := by rcases flag_cases x with h | h | h | h | h <;> omega
theorem OR.w {x : Nat} {z : Re} (h : OR x z) (hx : W64 x) : ReW z where
  sum := h.sum.bt (flag_lt14 x)
  len := by have := h.sum.len; omega
  mn := by rw [h.mn]; exact hx
  mx := by rw [h.mx]; exact hx
theorem ofL_range {S : Sc} {m : Int} {l : List Int} : 0 ≤ ofL S m l ∧ ofL S m l ≤ 18446744073709551615 := by
  unfold ofL
  by_cases h : ofE S m l = 0
  · rw [if_pos h]
    obtain ⟨h1, h2, h3⟩ := of_yes h
    have hc := (num_yes h1).1
    have hz := (sc_few hc).2
    have := key_step hz h3 S.ds.length (Nat.le_refl _)
    omega
  · rw [if_neg h]; omega
theorem one_min {S : Sc} {m : Int} {f : Fa} (h : oneE S m f = 0) : checkL S = 0 ∧ fitsL S f = 0 ∧ ofE S m f.cs = 0 ∧ ∀ k, k < f.is.length → f.is.getD k 0 ≠ -9223372036854775808 := by
  unfold oneE at h
  split at h
  · rename_i h1
    split at h
    · rename_i h2
      split at h
      · rename_i h3
        split at h
        · cases h
        · rename_i h4
          exact ⟨h1, h2, h3, fun k hk e => h4 (min_yes hk e)⟩
      · rename_i h3; exact absurd h h3
    · rename_i h2; exact absurd h h2
  · cases h
theorem OC.w {S : Sc} {m : Int} {f : Fa} {c : Ce} (h : OC S m f c) (hf : FaWf f) (h0 : oneE S m f = 0) : CeW c := by
  obtain ⟨q1, q2, q3, q4⟩ := one_min h0
  refine ⟨by rw [h.key]; exact ofL_range, by rw [h.cnt]; unfold I64; decide, fun x hx => ?_, fun x hx => ?_⟩
  · obtain ⟨k, hk, rfl⟩ := List.getElem_of_mem hx
    have hk2 : k < f.is.length := by rw [← h.li]; exact hk
    rw [← wg_get hk]
    exact (h.is k hk2).w (getD_all (P := I64) hf.i hk2) (q4 k hk2)
  · obtain ⟨k, hk, rfl⟩ := List.getElem_of_mem hx
    have hk2 : k < f.ns.length := by rw [← h.ln]; exact hk
    rw [← rg_get hk]
    exact (h.ns k hk2).w (getD_all (P := W64) hf.n hk2)
theorem OC.short {S : Sc} {m : Int} {f : Fa} {c : Ce} (h : OC S m f c) (hf : FaWf f) (h0 : oneE S m f = 0) : ShortC 20 c := by
  obtain ⟨q1, q2, q3, q4⟩ := one_min h0
  obtain ⟨-, -, k1, k2⟩ := fit_small q1 hf q2
  refine ⟨by rw [h.li]; omega, by rw [h.ln]; omega, fun k hk => ?_⟩
  have hk2 : k < f.is.length := by rw [← h.li]; exact hk
  have := (h.is k hk2).len (getD_all (P := I64) hf.i hk2)
  omega
theorem ShortC.mono {n m : Nat} {c : Ce} (h : ShortC n c) (hn : n ≤ m) : ShortC m c := ⟨h.li, h.ln, fun k hk => Nat.le_trans (h.sq k hk) hn⟩
def exA : Fa := ⟨[1], [3], []⟩
def exB : Fa := ⟨[0], [-5], []⟩
theorem exa_one : oneE exT 0 exA = 0 := by decide +kernel
theorem exb_one : oneE exT 0 exB = 0 := by decide +kernel
theorem exa_key : ofL exT 0 exA.cs = 0 := by decide +kernel
theorem exb_key : ofL exT 0 exB.cs = 0 := by decide +kernel
theorem exa_wf : FaWf exA := by
  refine ⟨?_, ?_, ?_, by decide⟩
  · intro x h; simp [exA] at h; omega
  · intro x h; simp [exA] at h; omega
  · intro x h; simp [exA] at h
theorem exb_wf : FaWf exB := by
  refine ⟨?_, ?_, ?_, by decide⟩
  · intro x h; simp [exB] at h; omega
  · intro x h; simp [exB] at h; omega
  · intro x h; simp [exB] at h
theorem ex_err {a b : Ce} (ha : OC exT 0 exA a) (hb : OC exT 0 exB b) : errJ a b = 0 := by
  have hla : a.is.length = 1 := ha.li
  have hlb : b.is.length = 1 := hb.li
  have hna : a.ns.length = 0 := ha.ln
  have hnb : b.ns.length = 0 := hb.ln
  have h1 : a.key = b.key ∧ a.is.length = b.is.length ∧ a.ns.length = b.ns.length := ⟨by rw [ha.key, hb.key, exa_key, exb_key], by omega, by omega⟩
  have h2 : fitB (a.cnt + b.cnt) = true ∧ ∀ k, k < a.is.length → okW (wg a.is k) (wg b.is k) = true := by
    refine ⟨by rw [ha.cnt, hb.cnt]; decide, fun k hk => ?_⟩
    obtain rfl : k = 0 := by omega
    have ka := ha.is 0 (by decide)
    have kb := hb.is 0 (by decide)
    unfold okW
    rw [ka.sum, kb.sum, ka.abs, kb.abs]
    decide
  rw [errJ_real h1 h2, hna]
  rfl
theorem ex_join {a b c : Ce} (ha : OC exT 0 exA a) (hb : OC exT 0 exB b) (h : JC a b c) : ∃ k ns, c = ⟨k, 2, [⟨-2, 8, [34], -5, 3⟩], ns⟩ := by
  have hla : a.is.length = 1 := ha.li
  have hlc : c.is.length = 1 := by rw [h.li]; exact hla
  have ka := ha.is 0 (by decide)
  have kb := hb.is 0 (by decide)
  have hj := h.is 0 (by omega)
  have hc := h.cnt
  rw [ha.cnt, hb.cnt] at hc
  obtain ⟨k, n, is, ns⟩ := c
  simp only at hlc hj hc
  match is, hlc with
  | [z], _ =>
    have hz : wg [z] 0 = z := rfl
    rw [hz] at hj
    obtain ⟨z0, z1, z2, z3, z4⟩ := z
    have e0 := hj.sum
    have e1 := hj.abs
    have e3 := hj.mn
    have e4 := hj.mx
    have e2 := hj.sq
    have ex : exA.is.getD 0 0 = 3 := rfl
    have ey : exB.is.getD 0 0 = -5 := rfl
    rw [ka.sum, kb.sum, ex, ey] at e0
    rw [ka.abs, kb.abs, ex, ey] at e1
    rw [ka.mn, kb.mn, ex, ey] at e3
    rw [ka.mx, kb.mx, ex, ey] at e4
    rw [ka.sq, kb.sq, ex, ey] at e2
    simp only at e0 e1 e2 e3 e4
    have h34 : z2 = [34] := tidy_unique hj.wd (by intro x hx; simp at hx; omega) hj.ty (.inr (by decide)) (by rw [e2]; decide)
    refine ⟨k, ns, ?_⟩
    rw [h34, e0, e1, e3, e4, hc]
    rfl
theorem fact_one (w : World) (cd x : Int) {N : Nat} (hN : w.heap.size = N) : Fact3 ((w.alloc (.cells #[.int .i64 cd] 3)).alloc (.cells #[.int .i64 x] 2)) (.slice (some ⟨N, 0, none⟩) 1 1) (.slice (some ⟨N + 1, 0, none⟩) 1 1) (.slice none 0 0) ⟨[cd], [x], []⟩ :=
  ⟨(set_one (k := .i64) (w := w) (x := cd) (T := 3) hN).below (below_one _ _), set_one (k := .i64) (x := x) (T := 2) (by simp [hN]), ⟨none, 0, rfl, by simp, .inl rfl⟩⟩
theorem pone_ex (w : World) (D I M V C J X : Value) (f : Fa) (h : Sch4 w D I M V exT) (h' : Fact3 w C J X f) (hf : FaWf f) (hT : Tab w) (hT2 : Tab64 w) (he : oneE exT 0 f = 0) :
    Calls Tryz.prog 11 #[SchV D I M V, .int .u32 0, FactV C J X] w fun e w' => ∃ c p k q l, e = .returned (.tuple #[.agg #[.int .u64 c.key, .int .i64 c.cnt, .slice p c.is.length k, .slice q c.ns.length l], .int .i64 0]) ∧ CeM w' (.slice p c.is.length k) (.slice q c.ns.length l) c ∧ OC exT 0 f c ∧ CeW c ∧ ShortC 20 c ∧ Below w.heap.size w w' :=
  (pone_any w D I M V C J X exT 0 f h ext_wf h' hf (by decide) (by decide) hT hT2).mono fun e w' ⟨c, I, N, he2, hm, hok, _, hb⟩ => by
    obtain ⟨⟨p, k, rfl⟩, q, l, rfl⟩ := hm.slices
    rw [he] at he2
    exact ⟨c, p, k, q, l, he2, hm, hok he, (hok he).w hf he, (hok he).short hf he, hb⟩
theorem row4 {w : World} {P : Nat} {T : TypeId} {a b c d : Value} (h : w.heap[P]? = some (.cells #[a, b, c, d] T (0, 0))) : w.cell? ⟨P, 0, none⟩ = some a ∧ w.cell? ⟨P, 1, none⟩ = some b ∧ w.cell? ⟨P, 2, none⟩ = some c ∧ w.cell? ⟨P, 3, none⟩ = some d := by
  refine ⟨by simp [World.cell?, h], by simp [World.cell?, h], by simp [World.cell?, h], by simp [World.cell?, h]⟩
set_option maxHeartbeats 8000000 in
theorem awake14_any (w : World) (hT : Tab w) (hT2 : Tab64 w) : Calls Tryz.prog 10 #[] w fun e w' => e = .returned (.bool true) ∧ Below w.heap.size w w' := by
  obtain ⟨W1, hW1⟩ : ∃ W, w.alloc (.cells #[.string ⟨#[97]⟩, .int .i64 2] 73) = W := ⟨_, rfl⟩
  obtain ⟨W2, hW2⟩ : ∃ W, W1.alloc (.cells #[.string ⟨#[109]⟩] 9) = W := ⟨_, rfl⟩
  have hd := ext_dims w w.heap.size 73 rfl
  rw [hW1] at hd
  have hs := strs_one (W := W1) (x := ⟨#[109]⟩) (T := 9) rfl
  have z1 : W1.heap.size = w.heap.size + 1 := by rw [← hW1]; simp
  rw [hW2, z1] at hs
  have b1 := below_one w (.cells #[.string ⟨#[97]⟩, .int .i64 2] 73)
  rw [hW1] at b1
  have b2 := below_one W1 (.cells #[.string ⟨#[109]⟩] 9)
  rw [hW2] at b2
  have z2 : W2.heap.size = w.heap.size + 1 + 1 := by rw [← hW2]; simp [z1]
  have b3 := below_one W2 (SchO (.slice (some ⟨w.heap.size, 0, none⟩) 1 1) (.slice (some ⟨w.heap.size + 1, 0, none⟩) 1 1) (.slice none 0 0) (.slice none 0 0))
  have hx := box_new W2 (.slice (some ⟨w.heap.size, 0, none⟩) 1 1) (.slice (some ⟨w.heap.size + 1, 0, none⟩) 1 1) (.slice none 0 0) (.slice none 0 0)
  rw [z2] at hx
  have HX := Lib.hid hx
  have HS := Lib.hid (show Sch4 (W2.alloc (SchO (.slice (some ⟨w.heap.size, 0, none⟩) 1 1) (.slice (some ⟨w.heap.size + 1, 0, none⟩) 1 1) (.slice none 0 0) (.slice none 0 0))) (.slice (some ⟨w.heap.size, 0, none⟩) 1 1) (.slice (some ⟨w.heap.size + 1, 0, none⟩) 1 1) (.slice none 0 0) (.slice none 0 0) exT from
    ⟨(hd.below b2).below b3, hs.below b3, ⟨none, 0, rfl, by simp [exT], by simp [exT], .inl rfl⟩, ⟨none, 0, rfl, by simp [exT], .inl rfl⟩⟩)
  have HB := Lib.hid (below_then b1 (below_then b2 b3))
  have HTb := Lib.hid (fun w1 (h : Below w.heap.size w w1) => And.intro (hT.call h) (hT2.call h))
  clear hd hs z1 b1 b2 z2 b3 hx hT hT2
  subst hW2 hW1
  go_enter Tryz.func10, Tryz.ntmps10
  go_upto_region 2 with fail
  generalize ((w.alloc (.cells #[.string ⟨#[97]⟩, .int .i64 2] 73)).alloc (.cells #[.string ⟨#[109]⟩] 9)).alloc (SchO (.slice (some ⟨w.heap.size, 0, none⟩) 1 1) (.slice (some ⟨w.heap.size + 1, 0, none⟩) 1 1) (.slice none 0 0) (.slice none 0 0)) = W at *
  obtain ⟨x0, x1, x2, x3⟩ := HX.out.reads
  have hb := below_then (below_one W (.cells #[.int .i64 1] 3)) (below_one _ (.cells #[.int .i64 3] 2))
  have HB1 := Lib.hid (below_then HB.out hb)
  have H1 := Lib.hid (pone_ex _ _ _ _ _ _ _ _ exA (HS.out.below hb) (fact_one W 1 3 rfl) exa_wf (HTb.out _ HB1.out).1 (HTb.out _ HB1.out).2 exa_one)
  have HW1 := Lib.hid hb
  clear hb
  go_wp2_with fail
  refine (H1.out).mono ?_; rintro e w1 ⟨a, p, k, q, l, rfl, ha, hoa, hwa, hsa, hb⟩
  have hb2 := below_then hb (below_one w1 (.cells #[.int .u64 a.key, .int .i64 a.cnt, .slice p a.is.length k, .slice q a.ns.length l] 41))
  have HW2 := Lib.hid (below_then HW1.out hb2)
  have HA2 := Lib.hid (show (w1.alloc (.cells #[.int .u64 a.key, .int .i64 a.cnt, .slice p a.is.length k, .slice q a.ns.length l] 41)).heap[w1.heap.size]? = some (.cells #[.int .u64 a.key, .int .i64 a.cnt, .slice p a.is.length k, .slice q a.ns.length l] 41 (0, 0)) from heap_alloc_new w1 _)
  have HAm := Lib.hid (ha.below (below_one w1 (.cells #[.int .u64 a.key, .int .i64 a.cnt, .slice p a.is.length k, .slice q a.ns.length l] 41)))
  have HAo := Lib.hid (And.intro hoa (And.intro hwa hsa))
  clear hb hb2 ha hoa hwa hsa H1 x0 x1 x2 x3
  go_upto_region 3 with fail
  generalize w1.alloc (.cells #[.int .u64 a.key, .int .i64 a.cnt, .slice p a.is.length k, .slice q a.ns.length l] 41) = w2 at *
  have HB2 := Lib.hid (below_then HB.out HW2.out)
  obtain ⟨x0, x1, x2, x3⟩ := (HX.out.below HW2.out).reads
  have hb := below_then (below_one w2 (.cells #[.int .i64 0] 3)) (below_one _ (.cells #[.int .i64 (-5)] 2))
  have HB3 := Lib.hid (below_then HB2.out hb)
  have H2 := Lib.hid (pone_ex _ _ _ _ _ _ _ _ exB ((HS.out.below HW2.out).below hb) (fact_one w2 0 (-5) rfl) exb_wf (HTb.out _ HB3.out).1 (HTb.out _ HB3.out).2 exb_one)
  have HW3 := Lib.hid hb
  clear hb
  go_wp2_with fail
  refine (H2.out).mono ?_; rintro e w3 ⟨b, p', k', q', l', rfl, hb', hob, hwb, hsb, hb⟩
  have hb2 := below_then hb (below_one w3 (.cells #[.int .u64 b.key, .int .i64 b.cnt, .slice p' b.is.length k', .slice q' b.ns.length l'] 41))
  have HW4 := Lib.hid (below_then HW3.out hb2)
  have HB4 := Lib.hid (show (w3.alloc (.cells #[.int .u64 b.key, .int .i64 b.cnt, .slice p' b.is.length k', .slice q' b.ns.length l'] 41)).heap[w3.heap.size]? = some (.cells #[.int .u64 b.key, .int .i64 b.cnt, .slice p' b.is.length k', .slice q' b.ns.length l'] 41 (0, 0)) from heap_alloc_new w3 _)
  have HBm := Lib.hid (hb'.below (below_one w3 (.cells #[.int .u64 b.key, .int .i64 b.cnt, .slice p' b.is.length k', .slice q' b.ns.length l'] 41)))
  have HBo := Lib.hid (And.intro hob (And.intro hwb hsb))
  clear hb hb2 hb' hob hwb hsb H2 x0 x1 x2 x3
  go_upto_region 4 with fail
  generalize w3.alloc (.cells #[.int .u64 b.key, .int .i64 b.cnt, .slice p' b.is.length k', .slice q' b.ns.length l'] 41) = w4 at *
  have HBb := Lib.hid (below_then HB2.out HW4.out)
  obtain ⟨x0, x1, x2, x3⟩ := row4 ((HW4.out.block _ (Array.getElem?_eq_some_iff.1 HA2.out).1).trans HA2.out)
  obtain ⟨y0, y1, y2, y3⟩ := row4 HB4.out
  have H3 := Lib.hid (pjoin14_any w4 a b _ _ _ _ (HAm.out.below HW4.out) HBm.out HAo.out.2.1 HBo.out.2.1 (HAo.out.2.2.mono (by decide)) (HBo.out.2.2.mono (by decide)) (HTb.out _ HBb.out).1)
  have HEr := Lib.hid (ex_err HAo.out.1 HBo.out.1)
  have HJn := Lib.hid (fun c h => ex_join (c := c) HAo.out.1 HBo.out.1 h)
  unfold RJ14 at H3
  rw [HEr.out] at H3
  clear HAo HBo HEr
  go_wp2_with fail
  refine (H3.out).mono ?_; rintro e w5 ⟨c, I, N, rfl, hm, hok, -, hb⟩
  obtain ⟨kk, ns, rfl⟩ := HJn.out c (hok (by trivial))
  obtain ⟨⟨pi, ci, rfl⟩, pn, cn, rfl⟩ := hm.slices
  have hb5 := below_one w5 (.cells #[.int .u64 kk, .int .i64 2, .slice pi 1 ci, .slice pn ns.length cn] 41)
  obtain ⟨r0, r1, r2, r3⟩ := row4 (heap_alloc_new w5 (.cells #[.int .u64 kk, .int .i64 2, .slice pi 1 ci, .slice pn ns.length cn] 41))
  obtain ⟨bb, off, qq, rfl, hq⟩ := (hm.i.below hb5).at (i := 0) (by show 0 < 1; decide)
  have HB6 := Lib.hid (below_then (below_then HBb.out hb) hb5)
  clear hb hb5 H3 hok hm x0 x1 x2 x3 y0 y1 y2 y3 HJn
  go_upto_region 5 with fail
  generalize w5.alloc (.cells #[.int .u64 kk, .int .i64 2, .slice (some ⟨bb, off, none⟩) 1 ci, .slice pn ns.length cn] 41) = w6 at *
  obtain ⟨s0, s1, s2, s3, s4, s5⟩ := hq
  obtain ⟨qp, qc, rfl, -, -⟩ := id s5
  have HQ := Lib.hid s5
  have hw : wg [⟨-2, 8, [34], -5, 3⟩] 0 = ⟨-2, 8, [34], -5, 3⟩ := rfl
  simp only [Nat.zero_mul, Nat.add_zero] at s0 s1 s2 s3 s4
  rw [hw] at s0 s1 s2 s3 s4 HQ
  dsimp only at s0 s1 s2 s3 s4 HQ
  have HSm := Lib.hid (fun (u : Value) (w7 : World) (hv : Ints .u32 w7 u [34]) (hb : Below w6.heap.size w6 w7) => rsame2_any (.slice qp 1 qc) u [34] [34] w7 (HQ.out.below hb) hv (by decide))
  have hdd : decide ([34] = ([34] : List Int)) = true := by decide
  rw [hdd] at HSm
  clear s5 hw hdd
  go_wp2_with fail
  refine (HSm.out _ _ (set_one (k := .u32) (w := w6) (x := 34) (T := 27) rfl) (below_one _ _)).mono ?_; rintro e w8 ⟨rfl, hd⟩
  have hb8 := below_then (below_one w6 (.cells #[.int .u32 34] 27)) hd.below
  have HB8 := Lib.hid (below_then HB6.out hb8)
  have r2 := cell_later hb8 r2
  have s3 := cell_later hb8 s3
  have s4 := cell_later hb8 s4
  clear hd hb8 HSm
  go_wp2_with fail
  go_ret
  exact ⟨rfl, HB8.out⟩
end Go.Proofs.YtigikgphipebiaaGreatDoor
