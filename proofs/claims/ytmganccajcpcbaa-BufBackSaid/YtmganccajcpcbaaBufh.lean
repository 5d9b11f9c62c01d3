/- The statement's read: what a reader that goes on answers. -/
import Derived.Test.YtmganccajcpcbaaBufg
namespace Go.Proofs.Ytmganccajcpcbaa
set_option maxRecDepth 100000
open Go.RowKit
set_option linter.unusedVariables false
abbrev askO (d u i : Int) (f : Nat) (t : ByteArray) (m : Int) : Obj := .cells #[.int .i64 d, .int .u64 u, .int .i64 i, .float .f64 f, .string t, .int .i64 m] 34
abbrev gotO (u i : Int) (t : ByteArray) (n e : Int) : Obj := .cells #[.int .u64 u, .int .i64 i, .string t, .int .i64 n, .int .i64 e] 30
abbrev askV (d u i : Int) (f : Nat) (t : ByteArray) (m : Int) : Value := .agg #[.int .i64 d, .int .u64 u, .int .i64 i, .float .f64 f, .string t, .int .i64 m]
abbrev gotV (u i : Int) (t : ByteArray) (n e : Int) : Value := .agg #[.int .u64 u, .int .i64 i, .string t, .int .i64 n, .int .i64 e]
/-- What the statement's read leaves. -/
def RdP (w : World) (N : Nat) (b : List Int) (p n e : Nat) (r : Ending) (w' : World) : Prop := r = .returned (.bool true) ∧ InAt w' N b (if e = 0 then p + n else p) e ∧ w.grownBy w' (some N)
theorem two_below (w : World) (o1 o2 : Obj) : Below w.heap.size w ((w.alloc o1).alloc o2) := below_then (below_one w o1) (below_one _ o2)
theorem cell_far {w w' : World} {N : Nat} {a : Addr} {v : Value} (hg : w.grownBy w' (some N)) (h : w.cell? a = some v) (hne : a.block ≠ N) : w'.cell? a = some v := by
  rw [hg.cell_far a (World.block_lt_of_cell? w a h) (by simpa using hne)]; exact h
theorem box_cells (w : World) (d u i : Int) (f : Nat) (t : ByteArray) (m gu gi : Int) (gt : ByteArray) (gn ge : Int) (W : World) (hW : (w.alloc (askO d u i f t m)).alloc (gotO gu gi gt gn ge) = W) :
    (W.cell? ⟨w.heap.size, 1, none⟩ = some (.int .u64 u) ∧ W.cell? ⟨w.heap.size, 5, none⟩ = some (.int .i64 m)) ∧
    W.cell? ⟨w.heap.size + 1, 0, none⟩ = some (.int .u64 gu) ∧ W.cell? ⟨w.heap.size + 1, 1, none⟩ = some (.int .i64 gi) ∧ W.cell? ⟨w.heap.size + 1, 2, none⟩ = some (.string gt) ∧ W.cell? ⟨w.heap.size + 1, 3, none⟩ = some (.int .i64 gn) ∧ Below w.heap.size w W := by
  subst hW
  refine ⟨⟨?_, ?_⟩, ?_, ?_, ?_, ?_, two_below w _ _⟩
  · rw [(below_one (w.alloc (askO d u i f t m)) _).cell (by simp)]; simp [go_sem]
  · rw [(below_one (w.alloc (askO d u i f t m)) _).cell (by simp)]; simp [go_sem]
  all_goals simp [go_sem]
theorem bN_bt {most : Int} {b : List Int} (hb : Bt b) : Bt (bN most b).1 := by
  unfold bN
  split
  · exact bt_nil
  · split
    · exact bt_nil
    · split
      · exact bt_nil
      · exact fun x hx => hb x (List.mem_of_mem_drop (List.mem_of_mem_take hx))
set_option maxHeartbeats 1000000 in
theorem rd0_any (w : World) (N : Nat) (b : List Int) (p : Nat) (u i m gi gn ge : Int) (f : Nat) (t gt : ByteArray)  (h : InAt w N b p 0) :
    Calls Try.prog 10 #[.pointer (some ⟨N, 0, none⟩), askV 0 u i f t m, gotV (uN u (getU (b.drop p))).1 gi gt gn ge] w (RdP w N b p (uN u (getU (b.drop p))).2.1 (uN u (getU (b.drop p))).2.2) := by
  have HN := Lib.hid h.lt
  have HBx := Lib.hid (box_cells w 0 u i f t m (uN u (getU (b.drop p))).1 gi gt gn ge _ rfl)
  have HR := Lib.hid (fun w2 (hb : Below ((w.alloc (askO 0 u i f t m)).alloc (gotO (uN u (getU (b.drop p))).1 gi gt gn ge)).heap.size ((w.alloc (askO 0 u i f t m)).alloc (gotO (uN u (getU (b.drop p))).1 gi gt gn ge)) w2) => inU_any w2 N b p u ((h.below HBx.out.2.2.2.2.2).below hb))
  generalize uN u (getU (b.drop p)) = R at *
  obtain ⟨x, n, e⟩ := R
  simp only at HR HBx
  clear h
  go_enter Try.func10, Try.ntmps10
  go_upto_region 3 with fail
  generalize (w.alloc (askO 0 u i f t m)).alloc (gotO x gi gt gn ge) = W at *
  obtain ⟨⟨k1, k2⟩, k3, k4, k5, k6, hBl⟩ := HBx.out
  have HB := Lib.hid hBl
  have hk : W.drew.cell? ⟨w.heap.size, 1, none⟩ = some (.int .u64 u) ∧ W.drew.cell? ⟨w.heap.size + 1, 0, none⟩ = some (.int .u64 x) := ⟨by simpa using k1, by simpa using k3⟩
  clear k1 k2 k3 k4 k5 k6 hBl HBx
  go_region_held3 (fun w' => w'.cell? ⟨w.heap.size, 1, none⟩ = some (.int .u64 u) ∧ w'.cell? ⟨w.heap.size + 1, 0, none⟩ = some (.int .u64 x)) (with_reducible exact hk)
    ((go_at_call 21; refine (HR.out _ (Below.refl _ _).drew).mono ?_; intro r w2 hr; obtain ⟨⟨v, rfl, rfl⟩, i2, g2⟩ := hr; have hk := And.intro (cell_far g2 hk.1 (by have := HN.out; simp only; omega)) (cell_far g2 hk.2 (by have := HN.out; simp only; omega)); have HQ := Lib.hid (And.intro i2 g2); clear i2 g2))
  go_wp2_with fail
  go_ret
  exact ⟨rfl, HQ.out.1, grown_then (grown_below HB.out (some N)) (grown_then (grown_below (Below.refl _ _).drew (some N)) HQ.out.2)⟩
set_option maxHeartbeats 1000000 in
theorem rd1_any (w : World) (N : Nat) (b : List Int) (p : Nat) (u i m gu gn ge : Int) (f : Nat) (t gt : ByteArray)  (h : InAt w N b p 0) :
    Calls Try.prog 10 #[.pointer (some ⟨N, 0, none⟩), askV 1 u i f t m, gotV gu (getI (b.drop p)).1 gt gn ge] w (RdP w N b p (getI (b.drop p)).2.1 (getI (b.drop p)).2.2) := by
  have HN := Lib.hid h.lt
  have HBx := Lib.hid (box_cells w 1 u i f t m gu (getI (b.drop p)).1 gt gn ge _ rfl)
  have HR := Lib.hid (fun w2 (hb : Below ((w.alloc (askO 1 u i f t m)).alloc (gotO gu (getI (b.drop p)).1 gt gn ge)).heap.size ((w.alloc (askO 1 u i f t m)).alloc (gotO gu (getI (b.drop p)).1 gt gn ge)) w2) => inI_any w2 N b p ((h.below HBx.out.2.2.2.2.2).below hb))
  generalize getI (b.drop p) = R at *
  obtain ⟨x, n, e⟩ := R
  simp only at HR HBx
  clear h
  go_enter Try.func10, Try.ntmps10
  go_upto_region 5 with fail
  generalize (w.alloc (askO 1 u i f t m)).alloc (gotO gu x gt gn ge) = W at *
  obtain ⟨⟨k1, k2⟩, k3, k4, k5, k6, hBl⟩ := HBx.out
  have HB := Lib.hid hBl
  have hk : W.drew.cell? ⟨w.heap.size + 1, 1, none⟩ = some (.int .i64 x) := by simpa using k4
  clear k1 k2 k3 k4 k5 k6 hBl HBx
  go_region_held3 (fun w' => w'.cell? ⟨w.heap.size + 1, 1, none⟩ = some (.int .i64 x)) (with_reducible exact hk)
    ((go_at_call 27; refine (HR.out _ (Below.refl _ _).drew).mono ?_; intro r w2 hr; obtain ⟨⟨v, rfl, rfl⟩, i2, g2⟩ := hr; have hk := cell_far g2 hk (by have := HN.out; simp only; omega); have HQ := Lib.hid (And.intro i2 g2); clear i2 g2))
  go_wp2_with fail
  go_ret
  exact ⟨rfl, HQ.out.1, grown_then (grown_below HB.out (some N)) (grown_then (grown_below (Below.refl _ _).drew (some N)) HQ.out.2)⟩
set_option maxHeartbeats 1000000 in
theorem rd3_any (w : World) (N : Nat) (b : List Int) (p : Nat) (u i m gu gi gn ge : Int) (f : Nat) (t : ByteArray)  (h : InAt w N b p 0) :
    Calls Try.prog 10 #[.pointer (some ⟨N, 0, none⟩), askV 3 u i f t m, gotV gu gi (strB (tN m (getT (b.drop p) [] 0)).1) gn ge] w (RdP w N b p (tN m (getT (b.drop p) [] 0)).2.1 (tN m (getT (b.drop p) [] 0)).2.2) := by
  have HN := Lib.hid h.lt
  have HBx := Lib.hid (box_cells w 3 u i f t m gu gi (strB (tN m (getT (b.drop p) [] 0)).1) gn ge _ rfl)
  have HR := Lib.hid (fun w2 (hb : Below ((w.alloc (askO 3 u i f t m)).alloc (gotO gu gi (strB (tN m (getT (b.drop p) [] 0)).1) gn ge)).heap.size ((w.alloc (askO 3 u i f t m)).alloc (gotO gu gi (strB (tN m (getT (b.drop p) [] 0)).1) gn ge)) w2) => inT_any w2 N b p m ((h.below HBx.out.2.2.2.2.2).below hb))
  generalize tN m (getT (b.drop p) [] 0) = R at *
  obtain ⟨x, n, e⟩ := R
  simp only at HR HBx
  generalize strB x = S at *
  clear h
  go_enter Try.func10, Try.ntmps10
  go_upto_region 10 with fail
  generalize (w.alloc (askO 3 u i f t m)).alloc (gotO gu gi S gn ge) = W at *
  obtain ⟨⟨k1, k2⟩, k3, k4, k5, k6, hBl⟩ := HBx.out
  have HB := Lib.hid hBl
  have hk : W.drew.cell? ⟨w.heap.size, 5, none⟩ = some (.int .i64 m) ∧ W.drew.cell? ⟨w.heap.size + 1, 2, none⟩ = some (.string S) := ⟨by simpa using k2, by simpa using k5⟩
  clear k1 k2 k3 k4 k5 k6 hBl HBx
  go_region_held3 (fun w' => w'.cell? ⟨w.heap.size, 5, none⟩ = some (.int .i64 m) ∧ w'.cell? ⟨w.heap.size + 1, 2, none⟩ = some (.string S)) (with_reducible exact hk)
    ((go_at_call 31; refine (HR.out _ (Below.refl _ _).drew).mono ?_; intro r w2 hr; obtain ⟨⟨v, rfl, rfl⟩, i2, g2⟩ := hr; have hk := And.intro (cell_far g2 hk.1 (by have := HN.out; simp only; omega)) (cell_far g2 hk.2 (by have := HN.out; simp only; omega)); have HQ := Lib.hid (And.intro i2 g2); clear i2 g2))
  go_wp2_with fail
  go_ret
  exact ⟨rfl, HQ.out.1, grown_then (grown_below HB.out (some N)) (grown_then (grown_below (Below.refl _ _).drew (some N)) HQ.out.2)⟩
set_option maxHeartbeats 1000000 in
theorem rd4_any (w : World) (N : Nat) (b : List Int) (p : Nat) (u i m gu gi gn ge : Int) (f : Nat) (t : ByteArray) (d : Int) (hd : d < 0 ∨ 3 < d) (hm : m ≤ 9223372036854775807) (h : InAt w N b p 0) :
    Calls Try.prog 10 #[.pointer (some ⟨N, 0, none⟩), askV d u i f t m, gotV gu gi (strB (bN m (b.drop p)).1) gn ge] w (RdP w N b p (bN m (b.drop p)).2.1 (bN m (b.drop p)).2.2) := by
  have HN := Lib.hid h.lt
  have HBx := Lib.hid (box_cells w d u i f t m gu gi (strB (bN m (b.drop p)).1) gn ge _ rfl)
  have HR := Lib.hid (fun w2 (hb : Below ((w.alloc (askO d u i f t m)).alloc (gotO gu gi (strB (bN m (b.drop p)).1) gn ge)).heap.size ((w.alloc (askO d u i f t m)).alloc (gotO gu gi (strB (bN m (b.drop p)).1) gn ge)) w2) => inB_any w2 N b p m ((h.below HBx.out.2.2.2.2.2).below hb) hm)
  have HBt := Lib.hid (show Bt (bN m (b.drop p)).1 from bN_bt (by obtain ⟨v, -, -, -, hbt, -⟩ := h; exact hbt.drop p))
  have d0 : (d == 0) = false := by simp; omega
  have d1 : (d == 1) = false := by simp; omega
  have d2 : (d == 2) = false := by simp; omega
  have d3 : (d == 3) = false := by simp; omega
  generalize bN m (b.drop p) = R at *
  obtain ⟨x, n, e⟩ := R
  simp only at HR HBx HBt
  obtain ⟨S, hS⟩ : ∃ S, strB x = S := ⟨_, rfl⟩
  have HS := Lib.hid (fun w v (hv : Ints .u8 w v x) => show (convert 22 9 v).run Try.prog w = .ok (.string S) w by rw [← hS]; exact conv_ints hv HBt.out)
  simp only [hS] at HBx HR ⊢
  clear hS
  clear h
  go_enter Try.func10, Try.ntmps10
  go_upto_region 11 with fail
  generalize (w.alloc (askO d u i f t m)).alloc (gotO gu gi S gn ge) = W at *
  obtain ⟨⟨k1, k2⟩, k3, k4, k5, k6, hBl⟩ := HBx.out
  have HB := Lib.hid hBl
  have hk : W.drew.cell? ⟨w.heap.size, 5, none⟩ = some (.int .i64 m) ∧ W.drew.cell? ⟨w.heap.size + 1, 2, none⟩ = some (.string S) := ⟨by simpa using k2, by simpa using k5⟩
  clear k1 k2 k3 k4 k5 k6 hBl HBx
  go_region_law
    ((go_simp; go_at_call 32; refine (HR.out _ (Below.refl _ _).drew).mono ?_; intro r w2 hr; obtain ⟨⟨v, rfl, hv⟩, i2, g2⟩ := hr; have hcv := HS.out _ _ hv; obtain ⟨pa, pc, rfl, -, -⟩ := hv; have hk := And.intro (cell_far g2 hk.1 (by have := HN.out; simp only; omega)) (cell_far g2 hk.2 (by have := HN.out; simp only; omega)); have HQ := Lib.hid (And.intro i2 g2); clear i2 g2))
  all_goals
    go_wp2_with fail
    go_ret
    exact ⟨rfl, HQ.out.1, grown_then (grown_below HB.out (some N)) (grown_then (grown_below (Below.refl _ _).drew (some N)) HQ.out.2)⟩
end Go.Proofs.Ytmganccajcpcbaa
