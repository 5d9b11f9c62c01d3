/- Layer 11: the reference's lists of texts. -/
import Derived.Test.YtdlebcjkokabjaaScht
import Derived.BigQuiet
import Derived.Deep.QuietTactic
namespace Go.Proofs.Ytdlebcjkokabjaa
set_option maxRecDepth 100000
open Go.RowKit
set_option linter.unusedVariables false
/-- The three cells of the reference's reader. -/
def R3 (w : World) (N : Nat) (v : Value) (p e : Nat) : Prop := w.heap[N]? = some (.cells #[v, .int .i64 p, .int .i64 e] 84 (0, 0))
theorem R3.reads {w : World} {N : Nat} {v : Value} {p e : Nat} (h : R3 w N v p e) : w.cell? ⟨N, 0, none⟩ = some v ∧ w.cell? ⟨N, 1, none⟩ = some (.int .i64 p) ∧ w.cell? ⟨N, 2, none⟩ = some (.int .i64 e) := by
  unfold R3 at h
  refine ⟨by simp [World.cell?, h], by simp [World.cell?, h], by simp [World.cell?, h]⟩
theorem R3.free {w : World} {N : Nat} {v : Value} {p e : Nat} (h : R3 w N v p e) : w.frozen? ⟨N, 1, none⟩ = false ∧ w.frozen? ⟨N, 2, none⟩ = false := by
  unfold R3 at h
  refine ⟨by simp [World.frozen?, h], by simp [World.frozen?, h]⟩
theorem R3.lt {w : World} {N : Nat} {v : Value} {p e : Nat} (h : R3 w N v p e) : N < w.heap.size := (Array.getElem?_eq_some_iff.1 h).1
theorem R3.below {w w' : World} {N : Nat} {v : Value} {p e : Nat} (h : R3 w N v p e) (hb : Below w.heap.size w w') : R3 w' N v p e := by
  unfold R3; rw [hb.block N h.lt]; exact h
theorem R3.grown {w w' : World} {K N : Nat} {v : Value} {p e : Nat} (h : R3 w N v p e) (hg : w.grownBy w' (some K)) (hne : N ≠ K) : R3 w' N v p e := by
  unfold R3; rw [hg.block N h.lt (by simpa using hne)]; exact h
theorem R3.set1 {w : World} {N : Nat} {v : Value} {p e : Nat} (h : R3 w N v p e) (q : Nat) : R3 (w.setCell ⟨N, 1, none⟩ (.int .i64 q)) N v q e := heap_setCell_same w N 1 _ _ (.int .i64 q) h
theorem R3.set2 {w : World} {N : Nat} {v : Value} {p e : Nat} (h : R3 w N v p e) (q : Nat) : R3 (w.setCell ⟨N, 2, none⟩ (.int .i64 q)) N v p q := heap_setCell_same w N 2 _ _ (.int .i64 q) h
/-- The cells of an answer. -/
def Got5 (w : World) (K : Nat) (u i : Int) (t : ByteArray) (n e : Nat) : Prop := w.heap[K]? = some (.cells #[.int .u64 u, .int .i64 i, .string t, .int .i64 n, .int .i64 e] 115 (0, 0))
theorem Got5.reads {w : World} {K : Nat} {u i : Int} {t : ByteArray} {n e : Nat} (h : Got5 w K u i t n e) : w.cell? ⟨K, 0, none⟩ = some (.int .u64 u) ∧ w.cell? ⟨K, 1, none⟩ = some (.int .i64 i) ∧ w.cell? ⟨K, 2, none⟩ = some (.string t) ∧ w.cell? ⟨K, 3, none⟩ = some (.int .i64 n) ∧ w.cell? ⟨K, 4, none⟩ = some (.int .i64 e) := by
  unfold Got5 at h
  refine ⟨by simp [World.cell?, h], by simp [World.cell?, h], by simp [World.cell?, h], by simp [World.cell?, h], by simp [World.cell?, h]⟩
theorem Got5.free {w : World} {K : Nat} {u i : Int} {t : ByteArray} {n e : Nat} (h : Got5 w K u i t n e) : w.frozen? ⟨K, 0, none⟩ = false ∧ w.frozen? ⟨K, 1, none⟩ = false ∧ w.frozen? ⟨K, 2, none⟩ = false ∧ w.frozen? ⟨K, 3, none⟩ = false ∧ w.frozen? ⟨K, 4, none⟩ = false := by
  unfold Got5 at h
  refine ⟨by simp [World.frozen?, h], by simp [World.frozen?, h], by simp [World.frozen?, h], by simp [World.frozen?, h], by simp [World.frozen?, h]⟩
theorem Got5.lt {w : World} {K : Nat} {u i : Int} {t : ByteArray} {n e : Nat} (h : Got5 w K u i t n e) : K < w.heap.size := (Array.getElem?_eq_some_iff.1 h).1
theorem Got5.below {w w' : World} {K : Nat} {u i : Int} {t : ByteArray} {n e : Nat} (h : Got5 w K u i t n e) (hb : Below w.heap.size w w') : Got5 w' K u i t n e := by
  unfold Got5; rw [hb.block K h.lt]; exact h
theorem Got5.grown {w w' : World} {K N : Nat} {u i : Int} {t : ByteArray} {n e : Nat} (h : Got5 w K u i t n e) (hg : w.grownBy w' (some N)) (hne : K ≠ N) : Got5 w' K u i t n e := by
  unfold Got5; rw [hg.block K h.lt (by simpa using hne)]; exact h
set_option maxHeartbeats 4000000 in
theorem ask_no (w : World) (N : Nat) (v : Value) (p e : Nat) (d u i m : Int) (f : Nat) (t : ByteArray) (h : R3 w N v p e) (he : e ≠ 0) :
    Calls Try.prog 78 #[.pointer (some ⟨N, 0, none⟩), askV d u i f t m] w fun r w' => r = .returned (gotV 0 0 ⟨#[]⟩ 0 0) ∧ Below w.heap.size w w' := by
  have hb2 := two_below w (askO d u i f t m) (gotO 0 0 ⟨#[]⟩ 0 0)
  obtain ⟨r0, r1, r2⟩ := (h.below hb2).reads
  have he' : ((e : Int) != 0) = true := by simp; omega
  have hne : ((e : Int) = 0) = False := eq_false (by omega)
  have HB := Lib.hid hb2
  clear he hb2 h
  go_enter Try.func78, Try.ntmps78
  go_wp2_with fail
  exact bodyPost_ret (v := gotV 0 0 ⟨#[]⟩ 0 0) (by simp [results, Try.results78, go_sem]) rfl ⟨rfl, HB.out⟩
theorem oct_hold {w w' : World} (hb : Below w.heap.size w w') {p0 p1 p2 p3 q0 q1 q2 q3 : Addr} {a0 a1 a2 a3 b0 b1 b2 b3 : Value}
    (h : w.cell? p0 = some a0 ∧ w.cell? p1 = some a1 ∧ w.cell? p2 = some a2 ∧ w.cell? p3 = some a3 ∧ w.cell? q0 = some b0 ∧ w.cell? q1 = some b1 ∧ w.cell? q2 = some b2 ∧ w.cell? q3 = some b3) :
    w'.cell? p0 = some a0 ∧ w'.cell? p1 = some a1 ∧ w'.cell? p2 = some a2 ∧ w'.cell? p3 = some a3 ∧ w'.cell? q0 = some b0 ∧ w'.cell? q1 = some b1 ∧ w'.cell? q2 = some b2 ∧ w'.cell? q3 = some b3 :=
  ⟨cell_hold hb h.1, cell_hold hb h.2.1, cell_hold hb h.2.2.1, cell_hold hb h.2.2.2.1, cell_hold hb h.2.2.2.2.1, cell_hold hb h.2.2.2.2.2.1, cell_hold hb h.2.2.2.2.2.2.1, cell_hold hb h.2.2.2.2.2.2.2⟩
abbrev five (w : World) (K : Nat) (u i : Int) (t : ByteArray) (n e : Nat) : World := ((((w.setCell ⟨K, 0, none⟩ (.int .u64 u)).setCell ⟨K, 1, none⟩ (.int .i64 i)).setCell ⟨K, 2, none⟩ (.string t)).setCell ⟨K, 3, none⟩ (.int .i64 n)).setCell ⟨K, 4, none⟩ (.int .i64 e)
theorem five_grown (w : World) (K : Nat) (u i : Int) (t : ByteArray) (n e : Nat) : w.grownBy (five w K u i t n e) (some K) :=
  grown_then (grown_then (grown_then (grown_then (grown_set w K 0 _) (grown_set _ K 1 _)) (grown_set _ K 2 _)) (grown_set _ K 3 _)) (grown_set _ K 4 _)
theorem five_got {w : World} {K : Nat} {u i u' i' : Int} {t t' : ByteArray} {n e n' e' : Nat} (h : Got5 w K u i t n e) : Got5 (five w K u' i' t' n' e') K u' i' t' n' e' := by
  have h0 := heap_setCell_same w K 0 _ _ (.int .u64 u') h
  have h1 := heap_setCell_same _ K 1 _ _ (.int .i64 i') h0
  have h2 := heap_setCell_same _ K 2 _ _ (.string t') h1
  have h3 := heap_setCell_same _ K 3 _ _ (.int .i64 n') h2
  exact heap_setCell_same _ K 4 _ _ (.int .i64 e') h3
theorem oct_far {w w' : World} {K B N : Nat} (hg : w.grownBy w' (some K)) {o0 o1 o2 o3 o4 o5 q0 q1 : Nat} {a0 a1 a2 a3 a4 a5 b0 b1 : Value} (hB : B ≠ K) (hN : N ≠ K)
    (h : w.cell? ⟨B, o0, none⟩ = some a0 ∧ w.cell? ⟨B, o1, none⟩ = some a1 ∧ w.cell? ⟨B, o2, none⟩ = some a2 ∧ w.cell? ⟨B, o3, none⟩ = some a3 ∧ w.cell? ⟨B, o4, none⟩ = some a4 ∧ w.cell? ⟨B, o5, none⟩ = some a5 ∧ w.cell? ⟨N, q0, none⟩ = some b0 ∧ w.cell? ⟨N, q1, none⟩ = some b1) :
    w'.cell? ⟨B, o0, none⟩ = some a0 ∧ w'.cell? ⟨B, o1, none⟩ = some a1 ∧ w'.cell? ⟨B, o2, none⟩ = some a2 ∧ w'.cell? ⟨B, o3, none⟩ = some a3 ∧ w'.cell? ⟨B, o4, none⟩ = some a4 ∧ w'.cell? ⟨B, o5, none⟩ = some a5 ∧ w'.cell? ⟨N, q0, none⟩ = some b0 ∧ w'.cell? ⟨N, q1, none⟩ = some b1 :=
  ⟨cell_grown hg h.1 hB, cell_grown hg h.2.1 hB, cell_grown hg h.2.2.1 hB, cell_grown hg h.2.2.2.1 hB, cell_grown hg h.2.2.2.2.1 hB, cell_grown hg h.2.2.2.2.2.1 hB, cell_grown hg h.2.2.2.2.2.2.1 hN, cell_grown hg h.2.2.2.2.2.2.2 hN⟩
theorem got_new (w : World) (u i : Int) (t : ByteArray) (n e : Nat) : Got5 (w.alloc (gotO u i t n e)) w.heap.size u i t n e := heap_alloc_new w _
set_option maxHeartbeats 1000000 in
theorem ask_yes (w : World) (N : Nat) (v : Value) (b : List Int) (p : Nat) (d u i m : Int) (f : Nat) (t : ByteArray) (u2 i2 : Int) (t2 : ByteArray) (n e : Nat) (h : R3 w N v p 0) (hv : Ints .u8 w v b) (hp : p ≤ b.length) (hl : b.length ≤ 20000) (hn : n ≤ 20000)
    (hR : ∀ w1 v2, Below w.heap.size w w1 → Ints .u8 w1 v2 (b.drop p) → Calls Try.prog 90 #[askV d u i f t m, v2] w1 (RefP u2 i2 t2 n e w1)) :
    Calls Try.prog 78 #[.pointer (some ⟨N, 0, none⟩), askV d u i f t m] w fun r w' => r = .returned (gotV u2 i2 t2 n e) ∧ R3 w' N v (p + n) e ∧ w.grownBy w' (some N) := by
  have hb2 := two_below w (askO d u i f t m) (gotO 0 0 ⟨#[]⟩ 0 0)
  obtain ⟨r0, r1, r2⟩ := (h.below hb2).reads
  obtain ⟨a, cap, rfl, hc, -⟩ := id hv
  obtain ⟨u9, c9, hop, hi9⟩ := tail_any hv hp
  have HI := Lib.hid hi9
  have HR := Lib.hid hR
  have HR3 := Lib.hid (h.below hb2)
  have HB2 := Lib.hid hb2
  have ha0 : ((w.alloc (askO d u i f t m)).alloc (gotO 0 0 ⟨#[]⟩ 0 0)).cell? ⟨w.heap.size, 0, none⟩ = some (.int .i64 d) ∧ ((w.alloc (askO d u i f t m)).alloc (gotO 0 0 ⟨#[]⟩ 0 0)).cell? ⟨w.heap.size, 1, none⟩ = some (.int .u64 u) ∧ ((w.alloc (askO d u i f t m)).alloc (gotO 0 0 ⟨#[]⟩ 0 0)).cell? ⟨w.heap.size, 2, none⟩ = some (.int .i64 i) ∧ ((w.alloc (askO d u i f t m)).alloc (gotO 0 0 ⟨#[]⟩ 0 0)).cell? ⟨w.heap.size, 3, none⟩ = some (.float .f64 f) ∧ ((w.alloc (askO d u i f t m)).alloc (gotO 0 0 ⟨#[]⟩ 0 0)).cell? ⟨w.heap.size, 4, none⟩ = some (.string t) ∧ ((w.alloc (askO d u i f t m)).alloc (gotO 0 0 ⟨#[]⟩ 0 0)).cell? ⟨w.heap.size, 5, none⟩ = some (.int .i64 m) := by
    have hx := below_one (w.alloc (askO d u i f t m)) (gotO 0 0 ⟨#[]⟩ 0 0)
    refine ⟨cell_hold hx ?_, cell_hold hx ?_, cell_hold hx ?_, cell_hold hx ?_, cell_hold hx ?_, cell_hold hx ?_⟩ <;> simp [go_sem]
  have hg1 : Got5 ((w.alloc (askO d u i f t m)).alloc (gotO 0 0 ⟨#[]⟩ 0 0)) (w.heap.size + 1) 0 0 ⟨#[]⟩ 0 0 := by
    have := got_new (w.alloc (askO d u i f t m)) 0 0 ⟨#[]⟩ 0 0
    have hz : (w.alloc (askO d u i f t m)).heap.size = w.heap.size + 1 := by simp
    rwa [hz] at this
  have HG1 := Lib.hid hg1
  have hwz : w.heap.size + 2 = ((w.alloc (askO d u i f t m)).alloc (gotO 0 0 ⟨#[]⟩ 0 0)).heap.size := by simp
  have hNl := h.lt
  clear h hv hi9 hg1 hR
  go_enter Try.func78, Try.ntmps78
  go_upto_region 3 with fail
  generalize (w.alloc (askO d u i f t m)).alloc (gotO 0 0 ⟨#[]⟩ 0 0) = W at *
  have hk : W.drew.cell? ⟨w.heap.size, 0, none⟩ = some (.int .i64 d) ∧ W.drew.cell? ⟨w.heap.size, 1, none⟩ = some (.int .u64 u) ∧ W.drew.cell? ⟨w.heap.size, 2, none⟩ = some (.int .i64 i) ∧ W.drew.cell? ⟨w.heap.size, 3, none⟩ = some (.float .f64 f) ∧ W.drew.cell? ⟨w.heap.size, 4, none⟩ = some (.string t) ∧ W.drew.cell? ⟨w.heap.size, 5, none⟩ = some (.int .i64 m) ∧ W.drew.cell? ⟨N, 0, none⟩ = some (.slice a b.length cap) ∧ W.drew.cell? ⟨N, 1, none⟩ = some (.int .i64 p) := ⟨by simp [ha0.1], by simp [ha0.2.1], by simp [ha0.2.2.1], by simp [ha0.2.2.2.1], by simp [ha0.2.2.2.2.1], by simp [ha0.2.2.2.2.2], by simp [r0], by simp [r1]⟩
  have hBw : Below w.heap.size w W.drew := hb2.drew
  have hBW : Below W.heap.size W W.drew := (Below.refl _ _).drew
  have hk5 : True := True.intro
  have hk0 := And.intro ha0.1 (And.intro ha0.2.1 (And.intro ha0.2.2.1 (And.intro ha0.2.2.2.1 (And.intro ha0.2.2.2.2.1 (And.intro ha0.2.2.2.2.2 (And.intro r0 r1))))))
  have hKB : w.heap.size ≠ W.heap.size := by omega
  have hKN : N ≠ W.heap.size := by have := HR3.out.lt; omega
  clear ha0 hb2
  go_region_held3 (fun w' => w'.cell? ⟨w.heap.size, 0, none⟩ = some (.int .i64 d) ∧ w'.cell? ⟨w.heap.size, 1, none⟩ = some (.int .u64 u) ∧ w'.cell? ⟨w.heap.size, 2, none⟩ = some (.int .i64 i) ∧ w'.cell? ⟨w.heap.size, 3, none⟩ = some (.float .f64 f) ∧ w'.cell? ⟨w.heap.size, 4, none⟩ = some (.string t) ∧ w'.cell? ⟨w.heap.size, 5, none⟩ = some (.int .i64 m) ∧ w'.cell? ⟨N, 0, none⟩ = some (.slice a b.length cap) ∧ w'.cell? ⟨N, 1, none⟩ = some (.int .i64 p)) ((first | (with_reducible exact hk) | (with_reducible exact oct_hold (below_one _ _) hk) | (with_reducible exact oct_hold (below_one _ _).drew hk0) | (with_reducible exact hk5)))
    ((go_at_call 90; refine (HR.out _ _ (by first | (with_reducible exact hBw) | exact below_then HB2.out (below_one _ _).drew) (by first | (with_reducible exact HI.out.below hBw) | exact HI.out.below (below_then HB2.out (below_one _ _).drew))).mono ?_; rintro r w2 ⟨rfl, hb3⟩; (first
      | (have kK : Got5 w2 W.heap.size 0 0 ⟨#[]⟩ 0 0 := Got5.below (w := (W.alloc (gotO 0 0 ⟨#[]⟩ 0 0)).drew) (got_new W 0 0 ⟨#[]⟩ 0 0) hb3; obtain ⟨z0, z1, z2, z3, z4⟩ := kK.reads; obtain ⟨y0, y1, y2, y3, y4⟩ := kK.free; have hBW := below_then (below_one W (gotO 0 0 ⟨#[]⟩ 0 0)).drew hb3; have hk := oct_hold hb3 (oct_hold (below_one _ _).drew hk0); have hk5 := oct_far (five_grown w2 W.heap.size u2 i2 t2 n e) hKB hKN hk)
      | (have hBW := below_then hBW hb3; have hk := oct_hold hb3 hk))))
  · have HKx := Lib.hid (got_new w2 u2 i2 t2 n e)
    have hb9 := below_then (below_then hBW (Below.refl _ _)) (below_one w2 (gotO u2 i2 t2 n e))
    have HG1x := Lib.hid (HG1.out.below hb9)
    have HR3x := Lib.hid (HR3.out.below hb9)
    have HGx := Lib.hid (grown_below (below_then HB2.out hb9) (some N))
    have hW2 := hBW.size
    have hKN : w2.heap.size ≠ N := by have := HR3.out.lt; omega
    have hK1 : w2.heap.size ≠ w.heap.size + 1 := by omega
    have hKw : w.heap.size ≤ w2.heap.size := by omega
    generalize hWx : w2.alloc (gotO u2 i2 t2 n e) = Wx at *
    obtain ⟨K, hKe⟩ : ∃ K, w2.heap.size = K := ⟨_, rfl⟩
    rw [hKe] at HKx hKN hK1 hKw ⊢
    obtain ⟨k0, k1, k2, k3, k4⟩ := HKx.out.reads
    obtain ⟨r0, r1, r2⟩ := HR3x.out.reads
    obtain ⟨f1, f2⟩ := HR3x.out.free
    clear hk hk5 hk0 hBW hWx hKe
    go_upto_region 5 with fail
    have hg4 := grown_set Wx N 2 (.int .i64 e)
    have HK4 := Lib.hid (HKx.out.grown hg4 hKN)
    have HG4 := Lib.hid (HG1x.out.grown hg4 (by omega))
    have HR4 := Lib.hid (HR3x.out.set2 e)
    have HGR := Lib.hid (grown_then HGx.out hg4)
    generalize Wx.setCell ⟨N, 2, none⟩ (.int .i64 e) = W4 at *
    clear k0 k1 k2 k3 k4 r0 r1 r2 f1 f2 hg4
    obtain ⟨k0, k1, k2, k3, k4⟩ := HK4.out.reads
    obtain ⟨r0, r1, r2⟩ := HR4.out.reads
    obtain ⟨f1, f2⟩ := HR4.out.free
    have i1 : IntKind.i64.wrap ((p : Int) + n) = ((p + n : Nat) : Int) := by rw [IntWalk.i64_in _ (by omega)]; omega
    go_region
    rw [show (p : Int) + (n : Int) = ((p + n : Nat) : Int) by omega]
    have hg5 := grown_drew (grown_set W4 N 1 (.int .i64 ((p + n : Nat) : Int)))
    have HK5 := HK4.out.grown hg5 hKN
    have HG5 := HG4.out.grown hg5 (by omega)
    have HR5 : R3 (W4.setCell ⟨N, 1, none⟩ (.int .i64 ((p + n : Nat) : Int))).drew N (.slice a b.length cap) (p + n) e := HR4.out.set1 (p + n)
    have HGG := grown_then HGR.out hg5
    generalize (W4.setCell ⟨N, 1, none⟩ (.int .i64 ((p + n : Nat) : Int))).drew = W5 at *
    clear k0 k1 k2 k3 k4 r0 r1 r2 f1 f2 hg5
    obtain ⟨k0, k1, k2, k3, k4⟩ := HK5.reads
    obtain ⟨g0, g1, g2, g3, g4⟩ := HG5.reads
    obtain ⟨f0, f1, f2, f3, f4⟩ := HG5.free
    have HR6 := Lib.hid (HR5.grown (five_grown W5 (w.heap.size + 1) u2 i2 t2 n e) (by omega))
    have HG6 := Lib.hid (grown_own HGG (five_grown W5 (w.heap.size + 1) u2 i2 t2 n e) (by omega))
    obtain ⟨q0, q1, q2, q3, q4⟩ := (five_got (u' := u2) (i' := i2) (t' := t2) (n' := n) (e' := e) HG5).reads
    clear HK5 HG5 HR5 HGG
    unfold five at HR6 HG6 q0 q1 q2 q3 q4
    go_wp2_with fail
    exact bodyPost_ret (v := gotV u2 i2 t2 n e) (by simp [results, Try.results78, q0, q1, q2, q3, q4, go_sem]) rfl ⟨rfl, HR6.out, HG6.out⟩
  · have HKx := Lib.hid (five_got (u' := u2) (i' := i2) (t' := t2) (n' := n) (e' := e) kK)
    have hgf := five_grown w2 W.heap.size u2 i2 t2 n e
    have HG1x := Lib.hid ((HG1.out.below hBW).grown hgf (by omega))
    have HR3x := Lib.hid ((HR3.out.below hBW).grown hgf hKN)
    have HGx := Lib.hid (grown_own (grown_below (below_then HB2.out hBW) (some N)) hgf (by omega))
    have hKN : W.heap.size ≠ N := fun e => hKN e.symm
    have hK1 : W.heap.size ≠ w.heap.size + 1 := by omega
    have hKw : w.heap.size ≤ W.heap.size := by omega
    unfold five at HKx HG1x HR3x HGx
    clear kK z0 z1 z2 z3 z4 y0 y1 y2 y3 y4 hgf
    generalize hWx : ((((w2.setCell ⟨W.heap.size, 0, none⟩ (.int .u64 u2)).setCell ⟨W.heap.size, 1, none⟩ (.int .i64 i2)).setCell ⟨W.heap.size, 2, none⟩ (.string t2)).setCell ⟨W.heap.size, 3, none⟩ (.int .i64 n)).setCell ⟨W.heap.size, 4, none⟩ (.int .i64 e) = Wx at *
    obtain ⟨K, hKe⟩ : ∃ K, W.heap.size = K := ⟨_, rfl⟩
    rw [hKe] at HKx hKN hK1 hKw ⊢
    obtain ⟨k0, k1, k2, k3, k4⟩ := HKx.out.reads
    obtain ⟨r0, r1, r2⟩ := HR3x.out.reads
    obtain ⟨f1, f2⟩ := HR3x.out.free
    clear hk hk5 hk0 hBW hWx hKe
    go_upto_region 5 with fail
    have hg4 := grown_set Wx N 2 (.int .i64 e)
    have HK4 := Lib.hid (HKx.out.grown hg4 hKN)
    have HG4 := Lib.hid (HG1x.out.grown hg4 (by omega))
    have HR4 := Lib.hid (HR3x.out.set2 e)
    have HGR := Lib.hid (grown_then HGx.out hg4)
    generalize Wx.setCell ⟨N, 2, none⟩ (.int .i64 e) = W4 at *
    clear k0 k1 k2 k3 k4 r0 r1 r2 f1 f2 hg4
    obtain ⟨k0, k1, k2, k3, k4⟩ := HK4.out.reads
    obtain ⟨r0, r1, r2⟩ := HR4.out.reads
    obtain ⟨f1, f2⟩ := HR4.out.free
    have i1 : IntKind.i64.wrap ((p : Int) + n) = ((p + n : Nat) : Int) := by rw [IntWalk.i64_in _ (by omega)]; omega
    go_region
    rw [show (p : Int) + (n : Int) = ((p + n : Nat) : Int) by omega]
    have hg5 := grown_drew (grown_set W4 N 1 (.int .i64 ((p + n : Nat) : Int)))
    have HK5 := HK4.out.grown hg5 hKN
    have HG5 := HG4.out.grown hg5 (by omega)
    have HR5 : R3 (W4.setCell ⟨N, 1, none⟩ (.int .i64 ((p + n : Nat) : Int))).drew N (.slice a b.length cap) (p + n) e := HR4.out.set1 (p + n)
    have HGG := grown_then HGR.out hg5
    generalize (W4.setCell ⟨N, 1, none⟩ (.int .i64 ((p + n : Nat) : Int))).drew = W5 at *
    clear k0 k1 k2 k3 k4 r0 r1 r2 f1 f2 hg5
    obtain ⟨k0, k1, k2, k3, k4⟩ := HK5.reads
    obtain ⟨g0, g1, g2, g3, g4⟩ := HG5.reads
    obtain ⟨f0, f1, f2, f3, f4⟩ := HG5.free
    have HR6 := Lib.hid (HR5.grown (five_grown W5 (w.heap.size + 1) u2 i2 t2 n e) (by omega))
    have HG6 := Lib.hid (grown_own HGG (five_grown W5 (w.heap.size + 1) u2 i2 t2 n e) (by omega))
    obtain ⟨q0, q1, q2, q3, q4⟩ := (five_got (u' := u2) (i' := i2) (t' := t2) (n' := n) (e' := e) HG5).reads
    clear HK5 HG5 HR5 HGG
    unfold five at HR6 HG6 q0 q1 q2 q3 q4
    go_wp2_with fail
    exact bodyPost_ret (v := gotV u2 i2 t2 n e) (by simp [results, Try.results78, q0, q1, q2, q3, q4, go_sem]) rfl ⟨rfl, HR6.out, HG6.out⟩
set_option maxRecDepth 100000
open Go.RowKit
set_option linter.unusedVariables false
theorem uN_len {most : Int} {b : List Int} (hb : Bt b) : ((uN most (getU b)).2.2 ≠ 0 → (uN most (getU b)).2.1 = 0) ∧ (uN most (getU b)).2.1 ≤ b.length := by
  have h1 := uN_fit most hb
  have h2 : (uN most (getU b)).2.2 ≠ 0 → (uN most (getU b)).2.1 = 0 := by
    intro h
    unfold uN at h ⊢
    split
    · rfl
    · rename_i q
      rw [if_neg q] at h
      exact (getU_zero h).2
  refine ⟨h2, ?_⟩
  by_cases he : (uN most (getU b)).2.2 = 0
  · exact h1.2.1 he
  · rw [h2 he]; exact Nat.zero_le _
theorem tN_len {most : Int} {b : List Int} : ((tN most (getT b [] 0)).2.2 ≠ 0 → (tN most (getT b [] 0)).2.1 = 0) ∧ (tN most (getT b [] 0)).2.1 ≤ b.length := by
  have h1 := tN_fit most (b := b)
  have h2 : (tN most (getT b [] 0)).2.2 ≠ 0 → (tN most (getT b [] 0)).2.1 = 0 := by
    intro h
    unfold tN at h ⊢
    split
    · rfl
    · rename_i q
      rw [if_neg q] at h
      exact ((getT_fit b [] 0).2.2 h).2
  refine ⟨h2, ?_⟩
  by_cases he : (tN most (getT b [] 0)).2.2 = 0
  · exact h1.2.1 he
  · rw [h2 he]; exact Nat.zero_le _
theorem got_u (u i : Int) (t : ByteArray) (n e : Int) (w : World) : (Instr.field 115 (gotV u i t n e) 0).run Try.prog w = .ok (.int .u64 u) w := by kernel_rfl
theorem got_t (u i : Int) (t : ByteArray) (n e : Int) (w : World) : (Instr.field 115 (gotV u i t n e) 2).run Try.prog w = .ok (.string t) w := by kernel_rfl
set_option maxHeartbeats 1000000 in
theorem readerU_any (w : World) (N : Nat) (v : Value) (b : List Int) (s : Nat × Nat) (most : Int) (h : R3 w N v s.1 s.2) (hv : Ints .u8 w v b) (hb : Bt b) (hl : b.length ≤ 20000) (hs : OkSt b s) :
    Calls Try.prog 53 #[.pointer (some ⟨N, 0, none⟩), .int .u64 most] w fun r w' => r = .returned (.int .u64 (stU b most s).1) ∧ R3 w' N v (stU b most s).2.1 (stU b most s).2.2 ∧ w.grownBy w' (some N) := by
  obtain ⟨p, e⟩ := s
  have hp : p ≤ b.length := hs.1
  simp only at h
  unfold stU
  by_cases he : e = 0
  · subst he
    rw [if_pos rfl]
    simp only
    have hn := uN_len (most := most) (hb.drop p)
    rw [List.length_drop] at hn
    have HA := Lib.hid (ask_yes w N v b p 0 most 0 0 0 ⟨#[]⟩ (uN most (getU (b.drop p))).1 0 ⟨#[]⟩ (uN most (getU (b.drop p))).2.1 (uN most (getU (b.drop p))).2.2 h hv hp hl (by omega)
      (fun w1 v2 hb1 hi => ref0_any w1 v2 (b.drop p) most 0 0 0 ⟨#[]⟩ hi (hb.drop p) (by rw [List.length_drop]; omega)))
    have HE := Lib.hid (show p + (uN most (getU (b.drop p))).2.1 = if (uN most (getU (b.drop p))).2.2 = 0 then p + (uN most (getU (b.drop p))).2.1 else p by
      split
      · rfl
      · rename_i q; rw [hn.1 q]; rfl)
    generalize uN most (getU (b.drop p)) = R at *
    generalize (if R.2.2 = 0 then p + R.2.1 else p) = q at HE ⊢
    clear hn h hv hs hp hl
    have hfd := got_u
    go_enter Try.func53, Try.ntmps53
    go_wp2_with fail
    refine (HA.out).mono ?_; rintro r w1 ⟨rfl, hr, hg⟩
    rw [HE.out] at hr
    have HR := Lib.hid (And.intro hr hg)
    clear hr hg HE
    go_wp2_with fail
    go_ret
    exact ⟨rfl, HR.out.1, HR.out.2⟩
  · rw [if_neg he]
    simp only
    have HA := Lib.hid (ask_no w N v p e 0 most 0 0 0 ⟨#[]⟩ h he)
    have HR := Lib.hid (fun w' (hb : Below w.heap.size w w') => h.below hb)
    clear h hv hs hp hl he
    have hfd := got_u
    go_enter Try.func53, Try.ntmps53
    go_wp2_with fail
    refine (HA.out).mono ?_; rintro r w1 ⟨rfl, hb1⟩
    have HB := Lib.hid hb1
    clear hb1
    go_wp2_with fail
    go_ret
    exact ⟨rfl, HR.out _ HB.out, grown_below HB.out _⟩
set_option maxHeartbeats 1000000 in
theorem readerT_any (w : World) (N : Nat) (v : Value) (b : List Int) (s : Nat × Nat) (most : Int) (h : R3 w N v s.1 s.2) (hv : Ints .u8 w v b) (hb : Bt b) (hl : b.length ≤ 20000) (hs : OkSt b s) :
    Calls Try.prog 54 #[.pointer (some ⟨N, 0, none⟩), .int .i64 most] w fun r w' => r = .returned (.string (strB (stT b most s).1)) ∧ R3 w' N v (stT b most s).2.1 (stT b most s).2.2 ∧ w.grownBy w' (some N) := by
  obtain ⟨p, e⟩ := s
  have hp : p ≤ b.length := hs.1
  simp only at h
  unfold stT
  by_cases he : e = 0
  · subst he
    rw [if_pos rfl]
    simp only
    have hn := tN_len (most := most) (b := b.drop p)
    rw [List.length_drop] at hn
    have HA := Lib.hid (ask_yes w N v b p 3 0 0 most 0 ⟨#[]⟩ 0 0 (strB (tN most (getT (b.drop p) [] 0)).1) (tN most (getT (b.drop p) [] 0)).2.1 (tN most (getT (b.drop p) [] 0)).2.2 h hv hp hl (by omega)
      (fun w1 v2 hb1 hi => ref3_any w1 v2 (b.drop p) 0 0 most 0 ⟨#[]⟩ hi (hb.drop p) (by rw [List.length_drop]; omega)))
    have HE := Lib.hid (show p + (tN most (getT (b.drop p) [] 0)).2.1 = if (tN most (getT (b.drop p) [] 0)).2.2 = 0 then p + (tN most (getT (b.drop p) [] 0)).2.1 else p by
      split
      · rfl
      · rename_i q; rw [hn.1 q]; rfl)
    generalize tN most (getT (b.drop p) [] 0) = R at *
    generalize strB R.1 = S at *
    generalize (if R.2.2 = 0 then p + R.2.1 else p) = q at HE ⊢
    clear hn h hv hs hp hl
    have hfd := got_t
    go_enter Try.func54, Try.ntmps54
    go_wp2_with fail
    refine (HA.out).mono ?_; rintro r w1 ⟨rfl, hr, hg⟩
    rw [HE.out] at hr
    have HR := Lib.hid (And.intro hr hg)
    clear hr hg HE
    go_wp2_with fail
    go_ret
    exact ⟨rfl, HR.out.1, HR.out.2⟩
  · rw [if_neg he]
    simp only
    have HA := Lib.hid (ask_no w N v p e 3 0 0 most 0 ⟨#[]⟩ h he)
    have HR := Lib.hid (fun w' (hb : Below w.heap.size w w') => h.below hb)
    clear h hv hs hp hl he
    have hfd := got_t
    go_enter Try.func54, Try.ntmps54
    go_wp2_with fail
    refine (HA.out).mono ?_; rintro r w1 ⟨rfl, hb1⟩
    have HB := Lib.hid hb1
    clear hb1
    go_wp2_with fail
    go_ret
    exact ⟨rfl, HR.out _ HB.out, grown_below HB.out _⟩
set_option maxHeartbeats 1000000 in
theorem rend_any (w : World) (N : Nat) (v : Value) (b : List Int) (s : Nat × Nat) (h : R3 w N v s.1 s.2) (hv : Ints .u8 w v b) (hs : OkSt b s) :
    Calls Try.prog 56 #[.pointer (some ⟨N, 0, none⟩)] w fun r w' => r = .returned (.int .i64 (endE b s)) ∧ R3 w' N v s.1 (endE b s) ∧ w.grownBy w' (some N) := by
  obtain ⟨p, e⟩ := s
  have hp : p ≤ b.length := hs.1
  simp only at h
  unfold endE
  obtain ⟨a, cap, rfl, -, -⟩ := hv
  obtain ⟨r0, r1, r2⟩ := h.reads
  have HR := Lib.hid (fun n => (h.below (below_drewN (Below.refl _ _) n) : R3 (w.drewN n) N (.slice a b.length cap) p e))
  have HG := Lib.hid (fun n => grown_below (below_drewN (Below.refl w.heap.size w) n) (some N))
  by_cases he : e = 0
  · subst he
    by_cases hlt : p < b.length
    · rw [if_pos ⟨rfl, hlt⟩]
      have hlt2 : ((p : Int) < (b.length : Int)) = True := eq_true (by omega)
      have hlt3 : (p < b.length) = True := eq_true hlt
      clear h hs
      go_enter Try.func56, Try.ntmps56
      go_upto_region 1 with fail
      go_quiet (fail)
      obtain ⟨s0, s1, s2⟩ := (HR.out nq).reads
      obtain ⟨f1, f2⟩ := (HR.out nq).free
      have HR2 := Lib.hid ((HR.out nq).set2 7)
      have HG2 := Lib.hid (grown_then (HG.out nq) (grown_set (w.drewN nq) N 2 (.int .i64 ((7 : Nat) : Int))))
      go_wp2_with fail
      go_ret
      exact ⟨rfl, HR2.out, HG2.out⟩
    · rw [if_neg (fun q => hlt q.2)]
      have hlt2 : ((p : Int) < (b.length : Int)) = False := eq_false (by omega)
      have hlt3 : (p < b.length) = False := eq_false hlt
      clear h hs
      go_enter Try.func56, Try.ntmps56
      go_upto_region 1 with fail
      go_quiet (fail)
      obtain ⟨s0, s1, s2⟩ := (HR.out nq).reads
      go_wp2_with fail
      go_ret
      exact ⟨rfl, HR.out nq, HG.out nq⟩
  · rw [if_neg (fun q => he q.1)]
    have he1 : ((e : Int) == 0) = false := by simp; omega
    have he2 : ((e : Int) = 0) = False := eq_false (by omega)
    have he3 : (e = 0) = False := eq_false he
    clear h hs
    go_enter Try.func56, Try.ntmps56
    go_upto_region 1 with fail
    go_quiet (fail)
    obtain ⟨s0, s1, s2⟩ := (HR.out nq).reads
    go_wp2_with fail
    go_ret
    exact ⟨rfl, HR.out nq, HG.out nq⟩
set_option maxRecDepth 100000
open Go.RowKit
set_option linter.unusedVariables false
theorem R3.own {w w' : World} {N : Nat} {v0 : Value} {p e B E sz n : Nat} {v : Value} {xs : List Value} (h : R3 w N v0 p e) (ho : w.ownsRow B E sz v n xs) (hN : N < B) (hg : w.grownBy w' v.ownBlock) : R3 w' N v0 p e := by
  rcases ho.2 with ⟨rfl, -⟩ | ⟨g, cap, cur, rfl, h2, h3, -⟩
  · exact h.below ((Below.refl _ _).grown hg (Nat.le_refl _) (fun k hk => by simp [Value.ownBlock] at hk))
  · exact h.grown (K := g) hg (by omega)
set_option maxHeartbeats 4000000 in
theorem rlist_any (w0 w : World) (N : Nat) (v : Value) (b : List Int) (s : Nat × Nat) (most : Int) (h0 : 0 ≤ most) (h1 : most ≤ 15) (hv : Ints .u8 w0 v b) (hw0 : Below w0.heap.size w0 w) (hN0 : w0.heap.size ≤ N) (h : R3 w N v s.1 s.2) (hs : OkSt b s) (hb : Bt b) (hl : b.length ≤ 20000) :
    Calls Try.prog 55 #[.pointer (some ⟨N, 0, none⟩), .int .u64 most] w fun r w' => (∃ u, r = .returned u ∧ SOwn w' w.heap.size u (textsK b (stU b most s).2 (stU b most s).1.toNat).1) ∧ R3 w' N v (textsK b (stU b most s).2 (stU b most s).1.toNat).2.1 (textsK b (stU b most s).2 (stU b most s).1.toNat).2.2 ∧ w.grownBy w' (some N) := by
  obtain ⟨i0, hi, hz0, hz1, hz2⟩ := info_parts Try.infoStr
  have hvl := stU_val hb h0 s
  have hs1 := stU_st hb most hs
  have HU := Lib.hid (readerU_any w N v b s most h (hv.below hw0) hb hl hs)
  have hNl := h.lt
  have HKs := Lib.hid (fun k => textsK_st hs1 k)
  have HR := Lib.hid (fun w1 k (hg : w.grownBy w1 (some N)) (h : R3 w1 N v (textsK b (stU b most s).2 k).2.1 (textsK b (stU b most s).2 k).2.2) => readerT_any w1 N v b (textsK b (stU b most s).2 k).2 16 h (hv.below (below_grown hw0 hg hN0)) hb hl (textsK_st hs1 k).1)
  have HN := Lib.hid (fun k => show textsK b (stU b most s).2 (k + 1) = ((textsK b (stU b most s).2 k).1 ++ [strB (stT b 16 (textsK b (stU b most s).2 k).2).1], (stT b 16 (textsK b (stU b most s).2 k).2).2) from rfl)
  obtain ⟨n, hn⟩ : ∃ n : Nat, (stU b most s).1 = n := ⟨(stU b most s).1.toNat, by omega⟩
  rw [hn] at HU hvl
  rw [hn, Int.toNat_natCast]
  generalize (stU b most s).2 = s1 at *
  have i0' : IntKind.i64.wrap (n : Int) = n := IntWalk.i64_in _ (by omega)
  clear h hs hb hn hs1 hv hw0
  go_enter Try.func55, Try.ntmps55
  go_wp2_with fail
  refine (HU.out).mono ?_; rintro r w1 ⟨rfl, hi1, hg⟩
  have HS0 := Lib.hid (And.intro hi1 hg)
  clear hi1 hg
  go_wp2_with fail
  go_loopw [5, 7] (fun lv i wr => ∃ k : Nat, k ≤ n ∧ i = .int .i64 k ∧ Hid (SOwn wr w.heap.size lv (textsK b s1 k).1 ∧ R3 wr N v (textsK b s1 k).2.1 (textsK b s1 k).2.2 ∧ w.grownBy wr (some N))) (fun _ i _ => n - (intOf i).toNat)
  case atStart => exact ⟨0, Nat.zero_le _, rfl, Lib.hid ⟨⟨by simp [textsK], .inl ⟨rfl, rfl⟩⟩, HS0.out.1, HS0.out.2⟩⟩
  case round =>
    obtain ⟨k, hk, rfl, HS⟩ := hrel
    by_cases hlk : k < n
    · have hlk' : (k : Int) < (n : Int) := by omega
      have HRk := Lib.hid (HR.out wr k HS.out.2.2 HS.out.2.1)
      have HNk := Lib.hid (HN.out k)
      have HLk := Lib.hid (HKs.out k).2
      generalize strB (stT b 16 (textsK b s1 k).2).1 = x at *
      generalize (stT b 16 (textsK b s1 k).2).2 = s2 at *
      obtain ⟨q, hq⟩ : ∃ q, (textsK b s1 k).1 = q := ⟨_, rfl⟩
      rw [hq] at HNk HLk HS
      obtain ⟨pa, pl, pc, rfl⟩ := own_any HS.out.1
      clear hq
      go_wp2_with fail
      refine (HRk.out).mono ?_; rintro r w2 ⟨rfl, hi2, hg2⟩
      have HO2 := Lib.hid (own_far HS.out.1 hg2 hNl)
      have HI2 := Lib.hid (And.intro hi2 (grown_then HS.out.2.2 hg2))
      have hsz := HI2.out.2.size
      clear hi2 hg2
      go_wp2_with (at_builtin; refine wpList_append_strs _ (by rfl) _ _ 23 rfl w.heap.size 9 i0 (.string ⟨#[]⟩) 16 Try.underlying23 hi hz0 hz1 hz2 rfl _ _ q [x] rfl rfl (HO2.out.alloc _) (strs_one rfl) (by have := HLk.out; unfold maxLen; simp; omega) (by have := HLk.out; simp; omega) (by simp; omega) ?_; intro v' w3 hown hgrow; have HQ := Lib.hid (And.intro hown (And.intro ((HI2.out.1.below (below_one _ _)).own (HO2.out.alloc _) hNl hgrow) (grown_row (grown_then HI2.out.2 (grown_below (below_one _ _) _)) hgrow (fun g hg => (HO2.out.lt g hg).1)))); obtain ⟨pv', lv', cv', rfl⟩ := own_any hown; clear hown hgrow)
      go_roundw
      case rel => exact ⟨k + 1, by omega, by go_num, Lib.hid ⟨by rw [HNk.out]; exact HQ.out.1, by rw [HNk.out]; exact HQ.out.2.1, HQ.out.2.2⟩⟩
      case measure => simp [intOf]; omega
    · have : k = n := by omega
      subst this
      obtain ⟨pa, pl, pc, rfl⟩ := own_any HS.out.1
      go_wp2_with fail
      go_ret
      exact ⟨⟨_, rfl, HS.out.1⟩, HS.out.2⟩
end Go.Proofs.Ytdlebcjkokabjaa
