/- Layer 11: the reference's Get. -/
import Derived.Test.YtdnbjaeeebodkaaGreatScht
import Derived.BigQuiet
import Derived.Deep.QuietTactic
import Derived.Test.YtdnbjaeeebodkaaGreatSchk
import Derived.Deep.RegionLaw
namespace Go.Proofs.YtdnbjaeeebodkaaGreat
set_option maxRecDepth 100000
open Go.RowKit
set_option linter.unusedVariables false
/-- The three cells of the reference's reader. -/
def R3 (w : World) (N : Nat) (v : Value) (p e : Nat) : Prop := w.heap[N]? = some (.cells #[v, .int .i64 p, .int .i64 e] 61 (0, 0))
theorem R3.reads {w : World} {N : Nat} {v : Value} {p e : Nat} (h : R3 w N v p e) : w.cell? ⟨N, 0, none⟩ = some v ∧ w.cell? ⟨N, 1, none⟩ = some (.int .i64 p) ∧ w.cell? ⟨N, 2, none⟩ = some (.int .i64 e) := by
  unfold R3 at h
  refine ⟨by simp [World.cell?, h], by simp [World.cell?, h], by simp [World.cell?, h]⟩
theorem R3.free {w : World} {N : Nat} {v : Value} {p e : Nat} (h : R3 w N v p e) : w.frozen? ⟨N, 1, none⟩ = false ∧ w.frozen? ⟨N, 2, none⟩ = false := by
  unfold R3 at h
  refine ⟨by simp [World.frozen?, h], by simp [World.frozen?, h]⟩
theorem R3.lt {w : World} {N : Nat} {v : Value} {p e : Nat} (h : R3 w N v p e) : N < w.heap.size := (Array.getElem?_eq_some_iff.1 h).1
theorem R3.below {w w' : World} {N : Nat} {v : Value} {p e : Nat} (h : R3 w N v p e) (hb : Below w.heap.size w w') : R3 w' N v p e := by
  unfold R3; rw [hb.block N h.lt]; exact h
theorem R3.grown {w w' : World} {K N : Nat} {v : Value} {p e : Nat} (h : R3 w N v p e) (hg : w.grownBy w' (some K)) (hne : N ≠ K) : R3 w' N v p e := by
  unfold R3; rw [hg.block N h.lt (by simpa using hne)]; exact h
theorem R3.set1 {w : World} {N : Nat} {v : Value} {p e : Nat} (h : R3 w N v p e) (q : Nat) : R3 (w.setCell ⟨N, 1, none⟩ (.int .i64 q)) N v q e := heap_setCell_same w N 1 _ _ (.int .i64 q) h
theorem R3.set2 {w : World} {N : Nat} {v : Value} {p e : Nat} (h : R3 w N v p e) (q : Nat) : R3 (w.setCell ⟨N, 2, none⟩ (.int .i64 q)) N v p q := heap_setCell_same w N 2 _ _ (.int .i64 q) h
/-- The cells of an answer. -/
def Got5 (w : World) (K : Nat) (u i : Int) (t : ByteArray) (n e : Nat) : Prop := w.heap[K]? = some (.cells #[.int .u64 u, .int .i64 i, .string t, .int .i64 n, .int .i64 e] 63 (0, 0))
theorem Got5.reads {w : World} {K : Nat} {u i : Int} {t : ByteArray} {n e : Nat} (h : Got5 w K u i t n e) : w.cell? ⟨K, 0, none⟩ = some (.int .u64 u) ∧ w.cell? ⟨K, 1, none⟩ = some (.int .i64 i) ∧ w.cell? ⟨K, 2, none⟩ = some (.string t) ∧ w.cell? ⟨K, 3, none⟩ = some (.int .i64 n) ∧ w.cell? ⟨K, 4, none⟩ = some (.int .i64 e) := by
  unfold Got5 at h
  refine ⟨by simp [World.cell?, h], by simp [World.cell?, h], by simp [World.cell?, h], by simp [World.cell?, h], by simp [World.cell?, h]⟩
theorem Got5.free {w : World} {K : Nat} {u i : Int} {t : ByteArray} {n e : Nat} (h : Got5 w K u i t n e) : w.frozen? ⟨K, 0, none⟩ = false ∧ w.frozen? ⟨K, 1, none⟩ = false ∧ w.frozen? ⟨K, 2, none⟩ = false ∧ w.frozen? ⟨K, 3, none⟩ = false ∧ w.frozen? ⟨K, 4, none⟩ = false := by
  unfold Got5 at h
  refine ⟨by simp [World.frozen?, h], by simp [World.frozen?, h], by simp [World.frozen?, h], by simp [World.frozen?, h], by simp [World.frozen?, h]⟩
theorem Got5.lt {w : World} {K : Nat} {u i : Int} {t : ByteArray} {n e : Nat} (h : Got5 w K u i t n e) : K < w.heap.size := (Array.getElem?_eq_some_iff.1 h).1
theorem Got5.below {w w' : World} {K : Nat} {u i : Int} {t : ByteArray} {n e : Nat} (h : Got5 w K u i t n e) (hb : Below w.heap.size w w') : Got5 w' K u i t n e := by
  unfold Got5; rw [hb.block K h.lt]; exact h
theorem Got5.grown {w w' : World} {K N : Nat} {u i : Int} {t : ByteArray} {n e : Nat} (h : Got5 w K u i t n e) (hg : w.grownBy w' (some N)) (hne : K ≠ N) : Got5 w' K u i t n e := by
  unfold Got5; rw [hg.block K h.lt (by simpa using hne)]; exact h
set_option maxHeartbeats 4000000 in
theorem ask_no (w : World) (N : Nat) (v : Value) (p e : Nat) (d u i m : Int) (f : Nat) (t : ByteArray) (h : R3 w N v p e) (he : e ≠ 0) :
    Calls Tryz.prog 20 #[.pointer (some ⟨N, 0, none⟩), askV d u i f t m] w fun r w' => r = .returned (gotV 0 0 ⟨#[]⟩ 0 0) ∧ Below w.heap.size w w' := by
  have hb2 := two_below w (askO d u i f t m) (gotO 0 0 ⟨#[]⟩ 0 0)
  obtain ⟨r0, r1, r2⟩ := (h.below hb2).reads
  have he' : ((e : Int) != 0) = true := by simp; omega
  have hne : ((e : Int) = 0) = False := eq_false (by omega)
  have HB := Lib.hid hb2
  clear he hb2 h
  go_enter Tryz.func20, Tryz.ntmps20
  go_wp2_with fail
  exact bodyPost_ret (v := gotV 0 0 ⟨#[]⟩ 0 0) (by simp [results, Tryz.results20, go_sem]) rfl ⟨rfl, HB.out⟩
theorem oct_hold {w w' : World} (hb : Below w.heap.size w w') {p0 p1 p2 p3 q0 q1 q2 q3 : Addr} {a0 a1 a2 a3 b0 b1 b2 b3 : Value}
    (h : w.cell? p0 = some a0 ∧ w.cell? p1 = some a1 ∧ w.cell? p2 = some a2 ∧ w.cell? p3 = some a3 ∧ w.cell? q0 = some b0 ∧ w.cell? q1 = some b1 ∧ w.cell? q2 = some b2 ∧ w.cell? q3 = some b3) :
    w'.cell? p0 = some a0 ∧ w'.cell? p1 = some a1 ∧ w'.cell? p2 = some a2 ∧ w'.cell? p3 = some a3 ∧ w'.cell? q0 = some b0 ∧ w'.cell? q1 = some b1 ∧ w'.cell? q2 = some b2 ∧ w'.cell? q3 = some b3 :=
  ⟨cell_hold hb h.1, cell_hold hb h.2.1, cell_hold hb h.2.2.1, cell_hold hb h.2.2.2.1, cell_hold hb h.2.2.2.2.1, cell_hold hb h.2.2.2.2.2.1, cell_hold hb h.2.2.2.2.2.2.1, cell_hold hb h.2.2.2.2.2.2.2⟩
abbrev five (w : World) (K : Nat) (u i : Int) (t : ByteArray) (n e : Nat) : World := ((((w.setCell ⟨K, 0, none⟩ (.int .u64 u)).setCell ⟨K, 1, none⟩ (.int .i64 i)).setCell ⟨K, 2, none⟩ (.string t)).setCell ⟨K, 3, none⟩ (.int .i64 n)).setCell ⟨K, 4, none⟩ (.int .i64 e)
theorem five_grown (w : World) (K : Nat) (u i : Int) (t : ByteArray) (n e : Nat) : w.grownBy (five w K u i t n e) (some K) :=
  grown_then (grown_then (grown_then (grown_then (grown_set w K 0 _) (grown_set _ K 1 _)) (grown_set _ K 2 _)) (grown_set _ K 3 _)) (grown_set _ K 4 _)
theorem five_got {w : World} {K : Nat} {u i u' i' : Int} {t t' : ByteArray} {n e n' e' : Nat} (h : Got5 w K u i t n e) : Got5 (five w K u' i' t' n' e') K u' i' t' n' e' := by
  have h0 := heap_setCell_same w K 0 _ _ (.int .u64 u') h
  have h1 := heap_setCell_same _ K 1 _ _ (.int .i64 i') h0
  have h2 := heap_setCell_same _ K 2 _ _ (.string t') h1
  have h3 := heap_setCell_same _ K 3 _ _ (.int .i64 n') h2
  exact heap_setCell_same _ K 4 _ _ (.int .i64 e') h3
theorem oct_far {w w' : World} {K B N : Nat} (hg : w.grownBy w' (some K)) {o0 o1 o2 o3 o4 o5 q0 q1 : Nat} {a0 a1 a2 a3 a4 a5 b0 b1 : Value} (hB : B ≠ K) (hN : N ≠ K)
    (h : w.cell? ⟨B, o0, none⟩ = some a0 ∧ w.cell? ⟨B, o1, none⟩ = some a1 ∧ w.cell? ⟨B, o2, none⟩ = some a2 ∧ w.cell? ⟨B, o3, none⟩ = some a3 ∧ w.cell? ⟨B, o4, none⟩ = some a4 ∧ w.cell? ⟨B, o5, none⟩ = some a5 ∧ w.cell? ⟨N, q0, none⟩ = some b0 ∧ w.cell? ⟨N, q1, none⟩ = some b1) :
    w'.cell? ⟨B, o0, none⟩ = some a0 ∧ w'.cell? ⟨B, o1, none⟩ = some a1 ∧ w'.cell? ⟨B, o2, none⟩ = some a2 ∧ w'.cell? ⟨B, o3, none⟩ = some a3 ∧ w'.cell? ⟨B, o4, none⟩ = some a4 ∧ w'.cell? ⟨B, o5, none⟩ = some a5 ∧ w'.cell? ⟨N, q0, none⟩ = some b0 ∧ w'.cell? ⟨N, q1, none⟩ = some b1 :=
  ⟨cell_grown hg h.1 hB, cell_grown hg h.2.1 hB, cell_grown hg h.2.2.1 hB, cell_grown hg h.2.2.2.1 hB, cell_grown hg h.2.2.2.2.1 hB, cell_grown hg h.2.2.2.2.2.1 hB, cell_grown hg h.2.2.2.2.2.2.1 hN, cell_grown hg h.2.2.2.2.2.2.2 hN⟩
theorem got_new (w : World) (u i : Int) (t : ByteArray) (n e : Nat) : Got5 (w.alloc (gotO u i t n e)) w.heap.size u i t n e := heap_alloc_new w _
set_option maxHeartbeats 1000000 in
theorem ask_yes (w : World) (N : Nat) (v : Value) (b : List Int) (p : Nat) (d u i m : Int) (f : Nat) (t : ByteArray) (u2 i2 : Int) (t2 : ByteArray) (n e : Nat) (h : R3 w N v p 0) (hv : Ints .u8 w v b) (hp : p ≤ b.length) (hl : b.length ≤ 20000) (hn : n ≤ 20000)
    (hR : ∀ w1 v2, Below w.heap.size w w1 → Ints .u8 w1 v2 (b.drop p) → Calls Tryz.prog 59 #[askV d u i f t m, v2] w1 (RefP u2 i2 t2 n e w1)) :
    Calls Tryz.prog 20 #[.pointer (some ⟨N, 0, none⟩), askV d u i f t m] w fun r w' => r = .returned (gotV u2 i2 t2 n e) ∧ R3 w' N v (p + n) e ∧ w.grownBy w' (some N) := by
  have hb2 := two_below w (askO d u i f t m) (gotO 0 0 ⟨#[]⟩ 0 0)
  obtain ⟨r0, r1, r2⟩ := (h.below hb2).reads
  obtain ⟨a, cap, rfl, hc, -⟩ := id hv
  obtain ⟨u9, c9, hop, hi9⟩ := tail_any hv hp
  have HI := Lib.hid hi9
  have HR := Lib.hid hR
  have HR3 := Lib.hid (h.below hb2)
  have HB2 := Lib.hid hb2
  have ha0 : ((w.alloc (askO d u i f t m)).alloc (gotO 0 0 ⟨#[]⟩ 0 0)).cell? ⟨w.heap.size, 0, none⟩ = some (.int .i64 d) ∧ ((w.alloc (askO d u i f t m)).alloc (gotO 0 0 ⟨#[]⟩ 0 0)).cell? ⟨w.heap.size, 1, none⟩ = some (.int .u64 u) ∧ ((w.alloc (askO d u i f t m)).alloc (gotO 0 0 ⟨#[]⟩ 0 0)).cell? ⟨w.heap.size, 2, none⟩ = some (.int .i64 i) ∧ ((w.alloc (askO d u i f t m)).alloc (gotO 0 0 ⟨#[]⟩ 0 0)).cell? ⟨w.heap.size, 3, none⟩ = some (.float .f64 f) ∧ ((w.alloc (askO d u i f t m)).alloc (gotO 0 0 ⟨#[]⟩ 0 0)).cell? ⟨w.heap.size, 4, none⟩ = some (.string t) ∧ ((w.alloc (askO d u i f t m)).alloc (gotO 0 0 ⟨#[]⟩ 0 0)).cell? ⟨w.heap.size, 5, none⟩ = some (.int .i64 m) := by
    have hx := below_one (w.alloc (askO d u i f t m)) (gotO 0 0 ⟨#[]⟩ 0 0)
    refine ⟨cell_hold hx ?_, cell_hold hx ?_, cell_hold hx ?_, cell_hold hx ?_, cell_hold hx ?_, cell_hold hx ?_⟩ <;> simp [go_sem]
  have hg1 : Got5 ((w.alloc (askO d u i f t m)).alloc (gotO 0 0 ⟨#[]⟩ 0 0)) (w.heap.size + 1) 0 0 ⟨#[]⟩ 0 0 := by
    have := got_new (w.alloc (askO d u i f t m)) 0 0 ⟨#[]⟩ 0 0
    have hz : (w.alloc (askO d u i f t m)).heap.size = w.heap.size + 1 := by simp
    rwa [hz] at this
  have HG1 := Lib.hid hg1
  have hwz : w.heap.size + 2 = ((w.alloc (askO d u i f t m)).alloc (gotO 0 0 ⟨#[]⟩ 0 0)).heap.size := by simp
  have hNl := h.lt
  clear h hv hi9 hg1 hR
  go_enter Tryz.func20, Tryz.ntmps20
  go_upto_region 3 with fail
  generalize (w.alloc (askO d u i f t m)).alloc (gotO 0 0 ⟨#[]⟩ 0 0) = W at *
  have hk : W.drew.cell? ⟨w.heap.size, 0, none⟩ = some (.int .i64 d) ∧ W.drew.cell? ⟨w.heap.size, 1, none⟩ = some (.int .u64 u) ∧ W.drew.cell? ⟨w.heap.size, 2, none⟩ = some (.int .i64 i) ∧ W.drew.cell? ⟨w.heap.size, 3, none⟩ = some (.float .f64 f) ∧ W.drew.cell? ⟨w.heap.size, 4, none⟩ = some (.string t) ∧ W.drew.cell? ⟨w.heap.size, 5, none⟩ = some (.int .i64 m) ∧ W.drew.cell? ⟨N, 0, none⟩ = some (.slice a b.length cap) ∧ W.drew.cell? ⟨N, 1, none⟩ = some (.int .i64 p) := ⟨by simp [ha0.1], by simp [ha0.2.1], by simp [ha0.2.2.1], by simp [ha0.2.2.2.1], by simp [ha0.2.2.2.2.1], by simp [ha0.2.2.2.2.2], by simp [r0], by simp [r1]⟩
  have hBw : Below w.heap.size w W.drew := hb2.drew
  have hBW : Below W.heap.size W W.drew := (Below.refl _ _).drew
  have hk5 : True := True.intro
  have hk0 := And.intro ha0.1 (And.intro ha0.2.1 (And.intro ha0.2.2.1 (And.intro ha0.2.2.2.1 (And.intro ha0.2.2.2.2.1 (And.intro ha0.2.2.2.2.2 (And.intro r0 r1))))))
  have hKB : w.heap.size ≠ W.heap.size := by omega
  have hKN : N ≠ W.heap.size := by have := HR3.out.lt; omega
  clear ha0 hb2
  go_region_held3 (fun w' => w'.cell? ⟨w.heap.size, 0, none⟩ = some (.int .i64 d) ∧ w'.cell? ⟨w.heap.size, 1, none⟩ = some (.int .u64 u) ∧ w'.cell? ⟨w.heap.size, 2, none⟩ = some (.int .i64 i) ∧ w'.cell? ⟨w.heap.size, 3, none⟩ = some (.float .f64 f) ∧ w'.cell? ⟨w.heap.size, 4, none⟩ = some (.string t) ∧ w'.cell? ⟨w.heap.size, 5, none⟩ = some (.int .i64 m) ∧ w'.cell? ⟨N, 0, none⟩ = some (.slice a b.length cap) ∧ w'.cell? ⟨N, 1, none⟩ = some (.int .i64 p)) ((first | (with_reducible exact hk) | (with_reducible exact oct_hold (below_one _ _) hk) | (with_reducible exact oct_hold (below_one _ _).drew hk0) | (with_reducible exact hk5)))
    ((go_at_call 59; refine (HR.out _ _ (by first | (with_reducible exact hBw) | exact below_then HB2.out (below_one _ _).drew) (by first | (with_reducible exact HI.out.below hBw) | exact HI.out.below (below_then HB2.out (below_one _ _).drew))).mono ?_; rintro r w2 ⟨rfl, hb3⟩; (first
      | (have kK : Got5 w2 W.heap.size 0 0 ⟨#[]⟩ 0 0 := Got5.below (w := (W.alloc (gotO 0 0 ⟨#[]⟩ 0 0)).drew) (got_new W 0 0 ⟨#[]⟩ 0 0) hb3; obtain ⟨z0, z1, z2, z3, z4⟩ := kK.reads; obtain ⟨y0, y1, y2, y3, y4⟩ := kK.free; have hBW := below_then (below_one W (gotO 0 0 ⟨#[]⟩ 0 0)).drew hb3; have hk := oct_hold hb3 (oct_hold (below_one _ _).drew hk0); have hk5 := oct_far (five_grown w2 W.heap.size u2 i2 t2 n e) hKB hKN hk)
      | (have hBW := below_then hBW hb3; have hk := oct_hold hb3 hk))))
  · have HKx := Lib.hid (got_new w2 u2 i2 t2 n e)
    have hb9 := below_then (below_then hBW (Below.refl _ _)) (below_one w2 (gotO u2 i2 t2 n e))
    have HG1x := Lib.hid (HG1.out.below hb9)
    have HR3x := Lib.hid (HR3.out.below hb9)
    have HGx := Lib.hid (grown_below (below_then HB2.out hb9) (some N))
    have hW2 := hBW.size
    have hKN : w2.heap.size ≠ N := by have := HR3.out.lt; omega
    have hK1 : w2.heap.size ≠ w.heap.size + 1 := by omega
    have hKw : w.heap.size ≤ w2.heap.size := by omega
    generalize hWx : w2.alloc (gotO u2 i2 t2 n e) = Wx at *
    obtain ⟨K, hKe⟩ : ∃ K, w2.heap.size = K := ⟨_, rfl⟩
    rw [hKe] at HKx hKN hK1 hKw ⊢
    obtain ⟨k0, k1, k2, k3, k4⟩ := HKx.out.reads
    obtain ⟨r0, r1, r2⟩ := HR3x.out.reads
    obtain ⟨f1, f2⟩ := HR3x.out.free
    clear hk hk5 hk0 hBW hWx hKe
    go_upto_region 5 with fail
    have hg4 := grown_set Wx N 2 (.int .i64 e)
    have HK4 := Lib.hid (HKx.out.grown hg4 hKN)
    have HG4 := Lib.hid (HG1x.out.grown hg4 (by omega))
    have HR4 := Lib.hid (HR3x.out.set2 e)
    have HGR := Lib.hid (grown_then HGx.out hg4)
    generalize Wx.setCell ⟨N, 2, none⟩ (.int .i64 e) = W4 at *
    clear k0 k1 k2 k3 k4 r0 r1 r2 f1 f2 hg4
    obtain ⟨k0, k1, k2, k3, k4⟩ := HK4.out.reads
    obtain ⟨r0, r1, r2⟩ := HR4.out.reads
    obtain ⟨f1, f2⟩ := HR4.out.free
    have i1 : IntKind.i64.wrap ((p : Int) + n) = ((p + n : Nat) : Int) := by rw [IntWalk.i64_in _ (by omega)]; omega
    go_region
    rw [show (p : Int) + (n : Int) = ((p + n : Nat) : Int) by omega]
    have hg5 := grown_drew (grown_set W4 N 1 (.int .i64 ((p + n : Nat) : Int)))
    have HK5 := HK4.out.grown hg5 hKN
    have HG5 := HG4.out.grown hg5 (by omega)
    have HR5 : R3 (W4.setCell ⟨N, 1, none⟩ (.int .i64 ((p + n : Nat) : Int))).drew N (.slice a b.length cap) (p + n) e := HR4.out.set1 (p + n)
    have HGG := grown_then HGR.out hg5
    generalize (W4.setCell ⟨N, 1, none⟩ (.int .i64 ((p + n : Nat) : Int))).drew = W5 at *
    clear k0 k1 k2 k3 k4 r0 r1 r2 f1 f2 hg5
    obtain ⟨k0, k1, k2, k3, k4⟩ := HK5.reads
    obtain ⟨g0, g1, g2, g3, g4⟩ := HG5.reads
    obtain ⟨f0, f1, f2, f3, f4⟩ := HG5.free
    have HR6 := Lib.hid (HR5.grown (five_grown W5 (w.heap.size + 1) u2 i2 t2 n e) (by omega))
    have HG6 := Lib.hid (grown_own HGG (five_grown W5 (w.heap.size + 1) u2 i2 t2 n e) (by omega))
    obtain ⟨q0, q1, q2, q3, q4⟩ := (five_got (u' := u2) (i' := i2) (t' := t2) (n' := n) (e' := e) HG5).reads
    clear HK5 HG5 HR5 HGG
    unfold five at HR6 HG6 q0 q1 q2 q3 q4
    go_wp2_with fail
    exact bodyPost_ret (v := gotV u2 i2 t2 n e) (by simp [results, Tryz.results20, q0, q1, q2, q3, q4, go_sem]) rfl ⟨rfl, HR6.out, HG6.out⟩
  · have HKx := Lib.hid (five_got (u' := u2) (i' := i2) (t' := t2) (n' := n) (e' := e) kK)
    have hgf := five_grown w2 W.heap.size u2 i2 t2 n e
    have HG1x := Lib.hid ((HG1.out.below hBW).grown hgf (by omega))
    have HR3x := Lib.hid ((HR3.out.below hBW).grown hgf hKN)
    have HGx := Lib.hid (grown_own (grown_below (below_then HB2.out hBW) (some N)) hgf (by omega))
    have hKN : W.heap.size ≠ N := fun e => hKN e.symm
    have hK1 : W.heap.size ≠ w.heap.size + 1 := by omega
    have hKw : w.heap.size ≤ W.heap.size := by omega
    unfold five at HKx HG1x HR3x HGx
    clear kK z0 z1 z2 z3 z4 y0 y1 y2 y3 y4 hgf
    generalize hWx : ((((w2.setCell ⟨W.heap.size, 0, none⟩ (.int .u64 u2)).setCell ⟨W.heap.size, 1, none⟩ (.int .i64 i2)).setCell ⟨W.heap.size, 2, none⟩ (.string t2)).setCell ⟨W.heap.size, 3, none⟩ (.int .i64 n)).setCell ⟨W.heap.size, 4, none⟩ (.int .i64 e) = Wx at *
    obtain ⟨K, hKe⟩ : ∃ K, W.heap.size = K := ⟨_, rfl⟩
    rw [hKe] at HKx hKN hK1 hKw ⊢
    obtain ⟨k0, k1, k2, k3, k4⟩ := HKx.out.reads
    obtain ⟨r0, r1, r2⟩ := HR3x.out.reads
    obtain ⟨f1, f2⟩ := HR3x.out.free
    clear hk hk5 hk0 hBW hWx hKe
    go_upto_region 5 with fail
    have hg4 := grown_set Wx N 2 (.int .i64 e)
    have HK4 := Lib.hid (HKx.out.grown hg4 hKN)
    have HG4 := Lib.hid (HG1x.out.grown hg4 (by omega))
    have HR4 := Lib.hid (HR3x.out.set2 e)
    have HGR := Lib.hid (grown_then HGx.out hg4)
    generalize Wx.setCell ⟨N, 2, none⟩ (.int .i64 e) = W4 at *
    clear k0 k1 k2 k3 k4 r0 r1 r2 f1 f2 hg4
    obtain ⟨k0, k1, k2, k3, k4⟩ := HK4.out.reads
    obtain ⟨r0, r1, r2⟩ := HR4.out.reads
    obtain ⟨f1, f2⟩ := HR4.out.free
    have i1 : IntKind.i64.wrap ((p : Int) + n) = ((p + n : Nat) : Int) := by rw [IntWalk.i64_in _ (by omega)]; omega
    go_region
    rw [show (p : Int) + (n : Int) = ((p + n : Nat) : Int) by omega]
    have hg5 := grown_drew (grown_set W4 N 1 (.int .i64 ((p + n : Nat) : Int)))
    have HK5 := HK4.out.grown hg5 hKN
    have HG5 := HG4.out.grown hg5 (by omega)
    have HR5 : R3 (W4.setCell ⟨N, 1, none⟩ (.int .i64 ((p + n : Nat) : Int))).drew N (.slice a b.length cap) (p + n) e := HR4.out.set1 (p + n)
    have HGG := grown_then HGR.out hg5
    generalize (W4.setCell ⟨N, 1, none⟩ (.int .i64 ((p + n : Nat) : Int))).drew = W5 at *
    clear k0 k1 k2 k3 k4 r0 r1 r2 f1 f2 hg5
    obtain ⟨k0, k1, k2, k3, k4⟩ := HK5.reads
    obtain ⟨g0, g1, g2, g3, g4⟩ := HG5.reads
    obtain ⟨f0, f1, f2, f3, f4⟩ := HG5.free
    have HR6 := Lib.hid (HR5.grown (five_grown W5 (w.heap.size + 1) u2 i2 t2 n e) (by omega))
    have HG6 := Lib.hid (grown_own HGG (five_grown W5 (w.heap.size + 1) u2 i2 t2 n e) (by omega))
    obtain ⟨q0, q1, q2, q3, q4⟩ := (five_got (u' := u2) (i' := i2) (t' := t2) (n' := n) (e' := e) HG5).reads
    clear HK5 HG5 HR5 HGG
    unfold five at HR6 HG6 q0 q1 q2 q3 q4
    go_wp2_with fail
    exact bodyPost_ret (v := gotV u2 i2 t2 n e) (by simp [results, Tryz.results20, q0, q1, q2, q3, q4, go_sem]) rfl ⟨rfl, HR6.out, HG6.out⟩
set_option maxRecDepth 100000
open Go.RowKit
set_option linter.unusedVariables false
theorem uN_len {most : Int} {b : List Int} (hb : Bt b) : ((uN most (getU b)).2.2 ≠ 0 → (uN most (getU b)).2.1 = 0) ∧ (uN most (getU b)).2.1 ≤ b.length := by
  have h1 := uN_fit most hb
  have h2 : (uN most (getU b)).2.2 ≠ 0 → (uN most (getU b)).2.1 = 0 := by
    intro h
    unfold uN at h ⊢
    split
    · rfl
    · rename_i q
      rw [if_neg q] at h
      exact (getU_zero h).2
  refine ⟨h2, ?_⟩
  by_cases he : (uN most (getU b)).2.2 = 0
  · exact h1.2.1 he
  · rw [h2 he]; exact Nat.zero_le _
theorem tN_len {most : Int} {b : List Int} : ((tN most (getT b [] 0)).2.2 ≠ 0 → (tN most (getT b [] 0)).2.1 = 0) ∧ (tN most (getT b [] 0)).2.1 ≤ b.length := by
  have h1 := tN_fit most (b := b)
  have h2 : (tN most (getT b [] 0)).2.2 ≠ 0 → (tN most (getT b [] 0)).2.1 = 0 := by
    intro h
    unfold tN at h ⊢
    split
    · rfl
    · rename_i q
      rw [if_neg q] at h
      exact ((getT_fit b [] 0).2.2 h).2
  refine ⟨h2, ?_⟩
  by_cases he : (tN most (getT b [] 0)).2.2 = 0
  · exact h1.2.1 he
  · rw [h2 he]; exact Nat.zero_le _
theorem got_u (u i : Int) (t : ByteArray) (n e : Int) (w : World) : (Instr.field 63 (gotV u i t n e) 0).run Tryz.prog w = .ok (.int .u64 u) w := by kernel_rfl
theorem got_t (u i : Int) (t : ByteArray) (n e : Int) (w : World) : (Instr.field 63 (gotV u i t n e) 2).run Tryz.prog w = .ok (.string t) w := by kernel_rfl
set_option maxHeartbeats 1000000 in
theorem readerU_any (w : World) (N : Nat) (v : Value) (b : List Int) (s : Nat × Nat) (most : Int) (h : R3 w N v s.1 s.2) (hv : Ints .u8 w v b) (hb : Bt b) (hl : b.length ≤ 20000) (hs : OkSt b s) :
    Calls Tryz.prog 19 #[.pointer (some ⟨N, 0, none⟩), .int .u64 most] w fun r w' => r = .returned (.int .u64 (stU b most s).1) ∧ R3 w' N v (stU b most s).2.1 (stU b most s).2.2 ∧ w.grownBy w' (some N) := by
  obtain ⟨p, e⟩ := s
  have hp : p ≤ b.length := hs.1
  simp only at h
  unfold stU
  by_cases he : e = 0
  · subst he
    rw [if_pos rfl]
    simp only
    have hn := uN_len (most := most) (hb.drop p)
    rw [List.length_drop] at hn
    have HA := Lib.hid (ask_yes w N v b p 0 most 0 0 0 ⟨#[]⟩ (uN most (getU (b.drop p))).1 0 ⟨#[]⟩ (uN most (getU (b.drop p))).2.1 (uN most (getU (b.drop p))).2.2 h hv hp hl (by omega)
      (fun w1 v2 hb1 hi => ref0_any w1 v2 (b.drop p) most 0 0 0 ⟨#[]⟩ hi (hb.drop p) (by rw [List.length_drop]; omega)))
    have HE := Lib.hid (show p + (uN most (getU (b.drop p))).2.1 = if (uN most (getU (b.drop p))).2.2 = 0 then p + (uN most (getU (b.drop p))).2.1 else p by
      split
      · rfl
      · rename_i q; rw [hn.1 q]; rfl)
    generalize uN most (getU (b.drop p)) = R at *
    generalize (if R.2.2 = 0 then p + R.2.1 else p) = q at HE ⊢
    clear hn h hv hs hp hl
    have hfd := got_u
    go_enter Tryz.func19, Tryz.ntmps19
    go_wp2_with fail
    refine (HA.out).mono ?_; rintro r w1 ⟨rfl, hr, hg⟩
    rw [HE.out] at hr
    have HR := Lib.hid (And.intro hr hg)
    clear hr hg HE
    go_wp2_with fail
    go_ret
    exact ⟨rfl, HR.out.1, HR.out.2⟩
  · rw [if_neg he]
    simp only
    have HA := Lib.hid (ask_no w N v p e 0 most 0 0 0 ⟨#[]⟩ h he)
    have HR := Lib.hid (fun w' (hb : Below w.heap.size w w') => h.below hb)
    clear h hv hs hp hl he
    have hfd := got_u
    go_enter Tryz.func19, Tryz.ntmps19
    go_wp2_with fail
    refine (HA.out).mono ?_; rintro r w1 ⟨rfl, hb1⟩
    have HB := Lib.hid hb1
    clear hb1
    go_wp2_with fail
    go_ret
    exact ⟨rfl, HR.out _ HB.out, grown_below HB.out _⟩
set_option maxHeartbeats 1000000 in
theorem rend_any (w : World) (N : Nat) (v : Value) (b : List Int) (s : Nat × Nat) (h : R3 w N v s.1 s.2) (hv : Ints .u8 w v b) (hs : OkSt b s) :
    Calls Tryz.prog 22 #[.pointer (some ⟨N, 0, none⟩)] w fun r w' => r = .returned (.int .i64 (endE b s)) ∧ R3 w' N v s.1 (endE b s) ∧ w.grownBy w' (some N) := by
  obtain ⟨p, e⟩ := s
  have hp : p ≤ b.length := hs.1
  simp only at h
  unfold endE
  obtain ⟨a, cap, rfl, -, -⟩ := hv
  obtain ⟨r0, r1, r2⟩ := h.reads
  have HR := Lib.hid (fun n => (h.below (below_drewN (Below.refl _ _) n) : R3 (w.drewN n) N (.slice a b.length cap) p e))
  have HG := Lib.hid (fun n => grown_below (below_drewN (Below.refl w.heap.size w) n) (some N))
  by_cases he : e = 0
  · subst he
    by_cases hlt : p < b.length
    · rw [if_pos ⟨rfl, hlt⟩]
      have hlt2 : ((p : Int) < (b.length : Int)) = True := eq_true (by omega)
      have hlt3 : (p < b.length) = True := eq_true hlt
      clear h hs
      go_enter Tryz.func22, Tryz.ntmps22
      go_upto_region 1 with fail
      go_quiet (fail)
      obtain ⟨s0, s1, s2⟩ := (HR.out nq).reads
      obtain ⟨f1, f2⟩ := (HR.out nq).free
      have HR2 := Lib.hid ((HR.out nq).set2 7)
      have HG2 := Lib.hid (grown_then (HG.out nq) (grown_set (w.drewN nq) N 2 (.int .i64 ((7 : Nat) : Int))))
      go_wp2_with fail
      go_ret
      exact ⟨rfl, HR2.out, HG2.out⟩
    · rw [if_neg (fun q => hlt q.2)]
      have hlt2 : ((p : Int) < (b.length : Int)) = False := eq_false (by omega)
      have hlt3 : (p < b.length) = False := eq_false hlt
      clear h hs
      go_enter Tryz.func22, Tryz.ntmps22
      go_upto_region 1 with fail
      go_quiet (fail)
      obtain ⟨s0, s1, s2⟩ := (HR.out nq).reads
      go_wp2_with fail
      go_ret
      exact ⟨rfl, HR.out nq, HG.out nq⟩
  · rw [if_neg (fun q => he q.1)]
    have he1 : ((e : Int) == 0) = false := by simp; omega
    have he2 : ((e : Int) = 0) = False := eq_false (by omega)
    have he3 : (e = 0) = False := eq_false he
    clear h hs
    go_enter Tryz.func22, Tryz.ntmps22
    go_upto_region 1 with fail
    go_quiet (fail)
    obtain ⟨s0, s1, s2⟩ := (HR.out nq).reads
    go_wp2_with fail
    go_ret
    exact ⟨rfl, HR.out nq, HG.out nq⟩
set_option maxRecDepth 100000
open Go.RowKit
set_option linter.unusedVariables false
theorem R3.own {w w' : World} {N : Nat} {v0 : Value} {p e B E sz n : Nat} {v : Value} {xs : List Value} (h : R3 w N v0 p e) (ho : w.ownsRow B E sz v n xs) (hN : N < B) (hg : w.grownBy w' v.ownBlock) : R3 w' N v0 p e := by
  rcases ho.2 with ⟨rfl, -⟩ | ⟨g, cap, cur, rfl, h2, h3, -⟩
  · exact h.below ((Below.refl _ _).grown hg (Nat.le_refl _) (fun k hk => by simp [Value.ownBlock] at hk))
  · exact h.grown (K := g) hg (by omega)
set_option maxRecDepth 100000
open Go.RowKit
set_option linter.unusedVariables false
theorem step_append_own {P : Program} (w : World) {ops : Array Oper} {o : Oper} {a : Act} {K : Act → World → Prop} {Q : Exit → Act → World → Prop} {E : Prop} (hgd : o.guard = none) (s x : Operand) (t : TypeId)
    (ho : o.op = .call { callee := .builtin .append, args := #[s, x], argTypes := #[t, t] })
    (base : Nat) (e : TypeId) (i : TypeInfo) (z : Value) (size bytes : Nat) (ht : P.underlying t = some (.slice e)) (hi : P.info? e = some i) (hz : i.zero = some z) (hsize : i.size = size) (hby : i.bytes = bytes) (hzs : z.cells.size = size) (hsz : 0 < size)
    (v : Value) (n : Nat) (xs : List Value) (hs : a.eval s = v) (hown : w.ownsRow base e size v n xs)
    (ad : Addr) (m c : Nat) (news : List Value) (hx : a.eval x = .slice (some ad) m c) (hl : news.length = m * size) (hnews : ∀ j u, news[j]? = some u → w.cell? (ad.add j) = some u) (h1 : ∀ u ∈ news, u.oneCell' = true)
    (h63 : n + m ≤ maxLen) (hbytes : (n + m) * bytes ≤ 140737488355328) (hbase : base ≤ w.heap.size)
    (h : ∀ v' w', w'.ownsRow base e size v' (n + m) (xs ++ news) → w.grownBy w' v.ownBlock → K (a.put o.dst v') w') :
    if Region.wanted o (yielded ops a.tmps) = true then Oper.wp P o a w K Q else E := by
  have hw : Region.wanted o (yielded ops a.tmps) = true := by simp [Region.wanted, hgd]
  rw [if_pos hw]
  exact wp_append_own w s x t ho base e i z size bytes ht hi hz hsize hby hzs hsz v n xs hs hown ad m c news hx hl hnews h1 h63 hbytes hbase fun v' w' h2 h3 _ => h v' w' h2 h3
/-- What stands in memory while the reference reads a schema: the reader, the result's cells, the schema's cells. -/
structure Rg (w wr : World) (v : Value) (s : Nat × Nat) (D I M V : Value) : Prop where
  i : R3 wr (w.heap.size + 1 + 1) v s.1 s.2
  r : Box wr w.heap.size (.slice none 0 0) (.slice none 0 0) (.slice none 0 0) (.slice none 0 0)
  k : Box wr (w.heap.size + 1) D I M V
  g : Below w.heap.size w wr
  sz : w.heap.size + 3 ≤ wr.heap.size
theorem Rg.call {w wr w1 : World} {v : Value} {s t : Nat × Nat} {D I M V : Value} (h : Rg w wr v s D I M V) (hi : R3 w1 (w.heap.size + 1 + 1) v t.1 t.2) (hg : wr.grownBy w1 (some (w.heap.size + 1 + 1))) : Rg w w1 v t D I M V :=
  ⟨hi, h.r.grown hg (by omega), h.k.grown hg (by omega), below_grown h.g hg (by omega), Nat.le_trans h.sz hg.size⟩
theorem Rg.stay {w wr w1 : World} {v : Value} {s : Nat × Nat} {D I M V D' I' M' V' : Value} (h : Rg w wr v s D I M V) (hk : Box w1 (w.heap.size + 1) D' I' M' V') (hg : wr.grownBy w1 (some (w.heap.size + 1))) : Rg w w1 v s D' I' M' V' :=
  ⟨h.i.grown hg (by omega), h.r.grown hg (by omega), hk, below_grown h.g hg (by omega), Nat.le_trans h.sz hg.size⟩
theorem Rg.below {w wr w1 : World} {v : Value} {s : Nat × Nat} {D I M V : Value} (h : Rg w wr v s D I M V) (hb : Below wr.heap.size wr w1) : Rg w w1 v s D I M V :=
  ⟨h.i.below hb, h.r.below hb, h.k.below hb, below_then h.g hb, Nat.le_trans h.sz hb.size⟩
theorem Rg.own {w wr w1 : World} {v u : Value} {s : Nat × Nat} {D I M V : Value} {E sz n : Nat} {xs : List Value} (h : Rg w wr v s D I M V) (ho : wr.ownsRow (w.heap.size + 3) E sz u n xs) (hg : wr.grownBy w1 u.ownBlock) : Rg w w1 v s D I M V := by
  rcases ho.2 with ⟨rfl, -⟩ | ⟨g, cap, cur, rfl, h2, h3, -⟩
  · exact h.below ((Below.refl _ _).grown hg (Nat.le_refl _) (fun k hk => by simp [Value.ownBlock] at hk))
  · exact ⟨h.i.grown (K := g) hg (by omega), h.r.grown (N := g) hg (by omega), h.k.grown (N := g) hg (by omega), below_grown (N := g) h.g hg (by omega), Nat.le_trans h.sz hg.size⟩
theorem rg_start (w : World) (v : Value) : Rg w (((w.alloc (SchO (.slice none 0 0) (.slice none 0 0) (.slice none 0 0) (.slice none 0 0))).alloc (SchO (.slice none 0 0) (.slice none 0 0) (.slice none 0 0) (.slice none 0 0))).alloc (.cells #[v, .int .i64 0, .int .i64 0] 61)) v (0, 0) (.slice none 0 0) (.slice none 0 0) (.slice none 0 0) (.slice none 0 0) := by
  have z1 : (w.alloc (SchO (.slice none 0 0) (.slice none 0 0) (.slice none 0 0) (.slice none 0 0))).heap.size = w.heap.size + 1 := by simp
  have z2 : ((w.alloc (SchO (.slice none 0 0) (.slice none 0 0) (.slice none 0 0) (.slice none 0 0))).alloc (SchO (.slice none 0 0) (.slice none 0 0) (.slice none 0 0) (.slice none 0 0))).heap.size = w.heap.size + 1 + 1 := by simp
  have k0 := box_new w (.slice none 0 0) (.slice none 0 0) (.slice none 0 0) (.slice none 0 0)
  have k1 := box_new (w.alloc (SchO (.slice none 0 0) (.slice none 0 0) (.slice none 0 0) (.slice none 0 0))) (.slice none 0 0) (.slice none 0 0) (.slice none 0 0) (.slice none 0 0)
  have k2 := heap_alloc_new ((w.alloc (SchO (.slice none 0 0) (.slice none 0 0) (.slice none 0 0) (.slice none 0 0))).alloc (SchO (.slice none 0 0) (.slice none 0 0) (.slice none 0 0) (.slice none 0 0))) (.cells #[v, .int .i64 0, .int .i64 0] 61)
  rw [z1] at k1
  rw [z2] at k2
  exact ⟨k2, k0.below (below_then (below_one _ _) (below_one _ _)), k1.below (below_one _ _), three_alloc w _ _ _, by simp⟩
theorem own_beside {w w' : World} {B B' E E' sz sz' n n' : Nat} {v v' : Value} {xs xs' : List Value} (h : w.ownsRow B E sz v n xs) (h' : w.ownsRow B' E' sz' v' n' xs') (hE : E ≠ E') (hg : w.grownBy w' v'.ownBlock) : w'.ownsRow B E sz v n xs := by
  refine h.kept hg ?_
  rcases h.2 with ⟨rfl, -⟩ | ⟨g, cap, cur, rfl, -, h3, -⟩
  · exact .inl rfl
  · right
    rcases h'.2 with ⟨rfl, -⟩ | ⟨g', cap', cur', rfl, -, h3', -⟩
    · simp [Value.ownBlock]
    · intro e
      have e2 : g = g' := by simpa [Value.ownBlock] using e
      subst e2
      rw [h3] at h3'
      have := Option.some.inj h3'
      injection this with _ e3 _
      exact hE e3
end Go.Proofs.YtdnbjaeeebodkaaGreat
