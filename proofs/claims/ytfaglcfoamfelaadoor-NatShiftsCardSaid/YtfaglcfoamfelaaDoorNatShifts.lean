/- NatShifts: for any list of words and any int the statement's function returns true and changes nothing that was there. No condition; the row lists math/bits.deBruijn32tab as the program's text lays it. -/
import Derived.Test.YtfaglcfoamfelaaDoorRows
import Derived.Test.YtfaglcfoamfelaaDoorCards
import Derived.Test.YtfaglcfoamfelaaDoorTie
import Derived.Test.YtfaglcfoamfelaaDoorLaid2
import Derived.Test.YtfaglcfoamfelaaDoorNato
import Derived.Test.YtfaglcfoamfelaaDoorNatf
import Derived.Test.YtfaglcfoamfelaaDoorMeet
import Derived.SevenTiedAt
import Derived.Deep.RegionWith
import Derived.Deep.RegionHeld3
import Derived.Deep.DeepCutAuto
import Derived.Deep.CutBlock
import Derived.Outline
namespace Go.Proofs.YtfaglcfoamfelaaDoor.natShifts
open Go.ChangeShapes Go.WideShapes Go.ChangeAt Go.RowKit
set_option linter.unusedVariables false
set_option maxRecDepth 100000 in
set_option maxHeartbeats 1000000 in
theorem walk_long (a0 : Option Addr) (len0 cap0 : Nat) (n : Int) (w : World) (hT : Tab w) (h : 20 < len0) (m0 : len0 ≤ 9223372036854775807) :
    Calls Tryd.prog 7 #[.slice a0 len0 cap0, .int .i64 n] w fun e w' => e = .returned (.bool true) ∧ Below w.heap.size w w' := by
  go_enter Tryd.func7, Tryd.ntmps7
  go_wp2_with fail
  refine (awake2_any w hT).mono ?_; rintro e w' ⟨rfl, hb⟩
  go_wp2_with fail
  go_ret
  exact ⟨rfl, hb⟩
/-- What Shl answers. -/
def ShlPost (w : World) (z n : Int) (e : Ending) (w' : World) : Prop :=
  ∃ v ok, e = .returned (.tuple #[v, .bool ok]) ∧ Below w.heap.size w w' ∧ (ok = false ∧ v = .slice none 0 0 ∧ (n < 0 ∨ 8192 < n) ∨ ok = true ∧ 0 ≤ n ∧ n ≤ 8192 ∧ IsNat w' v (z * 2 ^ n.toNat))
theorem shl_post (u : Value) (a : List Int) (w : World) (hu : WList w u a) (la : a.length ≤ 20) (n : Int) : Calls Tryd.prog 34 #[u, .int .i64 n] w (ShlPost w (wv a) n) := by
  by_cases h : n < 0 ∨ 8192 < n
  · refine (shl_none u n w h).mono ?_
    rintro e w' ⟨rfl, hb⟩
    exact ⟨_, _, rfl, hb, .inl ⟨rfl, rfl, h⟩⟩
  · obtain ⟨N, rfl⟩ := Int.eq_ofNat_of_zero_le (show 0 ≤ n by omega)
    refine (shl_any u a w hu (by omega) N (by omega)).mono ?_
    rintro e w' ⟨v, rfl, hF⟩
    have hN := Fresh.isNat hF (by omega)
    exact ⟨_, _, rfl, hN.2, .inr ⟨rfl, by omega, by omega, by simpa using hN.1⟩⟩
theorem sized20 {z : Int} (h0 : 0 ≤ z) (h1 : z < 4294967296 ^ 20) : Sized 1000 z := (sized_words h0 h1).mono (by omega)
abbrev Two2 (X : Nat) (a b : Value) (w : World) : Prop := w.cell? ⟨X, 0, none⟩ = some a ∧ w.cell? ⟨X, 1, none⟩ = some b
theorem Two2.call {X : Nat} {a b : Value} {w w' : World} (h : Two2 X a b w) (hb : Below w.heap.size w w') : Two2 X a b w' := ⟨cell_later hb h.1, cell_later hb h.2⟩
theorem Two2.alloc {X : Nat} {a b : Value} {w : World} {o : Obj} (h : Two2 X a b w) : Two2 X a b (w.alloc o) := h.call (below_one w o)
theorem kept_new {w W : World} {a b : Value} (h : Below w.heap.size w W) : Kept w W.heap.size 28 (W.alloc (.cells #[a, b] 28)) :=
  ⟨h.trans ((below_one W _).mono h.size), h.size, a, b, heap_alloc_new W _⟩
theorem kept_lt {w W : World} {M : Nat} (h : Kept w M 28 W) : M < W.heap.size ∧ M ≠ W.heap.size ∧ W.heap.size ≠ M := by
  obtain ⟨h1, h2, x, y, h3⟩ := h
  have := (Array.getElem?_eq_some_iff.1 h3).1
  exact ⟨this, Nat.ne_of_lt this, (Nat.ne_of_lt this).symm⟩
theorem kept_alloc {w W : World} {M : Nat} {o : Obj} (h : Kept w M 28 W) : Kept w M 28 (W.alloc o) := h.call (below_one W o)
theorem below_alloc' {w W : World} {o : Obj} (h : Below w.heap.size w W) : Below w.heap.size w (W.alloc o) := h.trans ((below_one W o).mono h.size)
theorem kept_second {w W : World} {o : Obj} {a b : Value} (h : Below w.heap.size w W) : Kept w (W.heap.size + 1) 28 ((W.alloc o).alloc (.cells #[a, b] 28)) := by
  have q := kept_new (a := a) (b := b) (below_alloc' (o := o) h)
  rwa [World.size_alloc] at q
theorem below_then {w W W' : World} (h : Below w.heap.size w W) (hb : Below W.heap.size W W') : Below w.heap.size w W' := h.trans (hb.mono h.size)
theorem Two2.set {X M : Nat} {a b u v : Value} {w : World} (h : Two2 X a b w) (hne : X ≠ M) : Two2 X a b ((w.setCell ⟨M, 0, none⟩ u).setCell ⟨M, 1, none⟩ v) := by
  obtain ⟨h1, h2⟩ := h
  exact ⟨by rw [World.cell?_setCell_far _ _ _ _ (by simp; omega), World.cell?_setCell_far _ _ _ _ (by simp; omega)]; exact h1, by rw [World.cell?_setCell_far _ _ _ _ (by simp; omega), World.cell?_setCell_far _ _ _ _ (by simp; omega)]; exact h2⟩
theorem Two2.drew {X : Nat} {a b : Value} {w : World} (h : Two2 X a b w) : Two2 X a b w.drew := h.call (Below.refl _ _).drew
theorem Two2.lt {X : Nat} {a b : Value} {w : World} (h : Two2 X a b w) : X < w.heap.size := World.block_lt_of_cell? w ⟨X, 0, none⟩ h.1
def LowMeet (w : World) (X M : Nat) (a b : Value) (z : Int) (wx : World) : Prop :=
  ∃ u t, Two2 M u t wx ∧ IsNum wx (.agg #[u, t]) z ∧ Two2 X a b wx ∧ Below w.heap.size w wx
theorem low_div (u v : Value) {A : Int} {N : Nat} (h0 : 0 ≤ A) (h1 : A < 4294967296 ^ 20) (w : World) (hu : IsNum w u A) (hv : IsNum w v (2 ^ min N 2000)) :
    Calls Tryd.prog 33 #[u, v] w (DivPost w (A / 2 ^ N) (A % 2 ^ min N 2000)) := by
  have hp : (0 : Int) < 2 ^ min N 2000 := Int.pow_pos (by decide)
  have hm : (2 : Int) ^ min N 2000 ≤ 2 ^ 2000 := pow2_mono (by omega)
  have hc : (2 : Int) ^ 2000 < 1000 ^ 1000 := by decide +kernel
  have h := num_div u v A (2 ^ min N 2000) 1000 w hu hv (sized20 h0 h1) ⟨by omega, by omega⟩ (by decide) (by omega)
  rw [Int.fdiv_eq_ediv_of_nonneg _ (by omega), Int.fmod_eq_emod_of_nonneg _ (by omega)] at h
  by_cases e : N ≤ 2000
  · rw [show min N 2000 = N from by omega] at *; exact h
  · have hc2 : (4294967296 : Int) ^ 20 ≤ 2 ^ 2000 := by decide +kernel
    have hm2 : (2 : Int) ^ 2000 ≤ 2 ^ N := pow2_mono (by omega)
    rw [show min N 2000 = 2000 from by omega] at *
    rw [Int.ediv_eq_zero_of_lt h0 (by omega)] at h
    rw [Int.ediv_eq_zero_of_lt h0 (by omega)]
    exact h
theorem sized_two {N : Nat} (h : N ≤ 2000) : Sized 1000 ((2 : Int) ^ N) := by
  have hp : (0 : Int) < 2 ^ N := Int.pow_pos (by decide)
  have hm : (2 : Int) ^ N ≤ 2 ^ 2000 := pow2_mono h
  have hc : (2 : Int) ^ 2000 < 1000 ^ 1000 := by decide +kernel
  exact ⟨by omega, by omega⟩
theorem words_shl {A : Int} {N : Nat} (h0 : 0 ≤ A) (h1 : A < 4294967296 ^ 20) (h : N ≤ 8192) : A * 2 ^ N < 4294967296 ^ 276 := by
  have hp : (0 : Int) < 2 ^ N := Int.pow_pos (by decide)
  have hm : (2 : Int) ^ N ≤ 2 ^ 8192 := pow2_mono h
  have e : (4294967296 : Int) ^ 20 * 2 ^ 8192 = 4294967296 ^ 276 := by decide +kernel
  have k1 : A * 2 ^ N < 4294967296 ^ 20 * 2 ^ N := Int.mul_lt_mul_of_pos_right h1 hp
  have k2 : (4294967296 : Int) ^ 20 * 2 ^ N ≤ 4294967296 ^ 20 * 2 ^ 8192 := Int.mul_le_mul_of_nonneg_left hm (Int.le_of_lt (q_pos 20))
  omega
theorem short_of {w : World} {v : Value} {z : Int} (h : IsNat w v z) {n : Nat} (hz : z < 4294967296 ^ n) : ∃ a, WList w v a ∧ a.length ≤ n ∧ wv a = z := by
  obtain ⟨a, h1, h2, rfl⟩ := h
  exact ⟨a, h1, h2.wlen h1.2.1 hz, rfl⟩
theorem num_nought {w : World} {nb : Bool} {np : Option Addr} {nl nc : Nat} {z : Int} (h : IsNum w (.agg #[.bool nb, .slice np nl nc]) z) : (z = 0 → nl = 0) ∧ (nl = 0 → z = 0) := by
  obtain ⟨b, s, ds, e, ⟨p, c, rfl, -⟩, -, hd, ht, hne, rfl⟩ := h
  simp only [Value.agg.injEq, Array.mk.injEq, List.cons.injEq, and_true, Value.slice.injEq, Value.bool.injEq] at e
  obtain ⟨rfl, rfl, rfl, rfl⟩ := e
  refine ⟨fun h => ?_, fun h => ?_⟩
  · have : val ds = 0 := by cases nb <;> simpa [signed] using h
    rw [(ht.zero hd).1 this]; rfl
  · have : ds = [] := List.eq_nil_of_length_eq_zero h
    subst this
    cases nb <;> simp [signed, val_nil]
theorem pow2_lt {m n : Nat} (h : (2 : Int) ^ m < 2 ^ n) : m < n := by
  by_cases g : m < n
  · exact g
  · have := pow2_mono (m := n) (n := m) (by omega); omega
theorem bits_shl {A : Int} {N : Nat} (h : 0 < A) : bitsZ (A * 2 ^ N) = bitsZ A + N := by
  have hp : (0 : Int) < 2 ^ N := Int.pow_pos (by decide)
  have h1 := bits_lt h
  have h2 := bits_le h
  have h0 : 0 < A * 2 ^ N := Int.mul_pos h hp
  have h3 := bits_lt h0
  have h4 := bits_le h0
  have hb := bitsZ_pos h
  have hB := bitsZ_pos h0
  have k1 : A * 2 ^ N < 2 ^ (bitsZ A + N) := by rw [Int.pow_add]; exact Int.mul_lt_mul_of_pos_right h1 hp
  have k2 : 2 ^ (bitsZ A - 1 + N) ≤ A * 2 ^ N := by rw [Int.pow_add]; exact Int.mul_le_mul_of_nonneg_right h2 (Int.le_of_lt hp)
  have k3 := pow2_lt (Int.lt_of_le_of_lt h4 k1)
  have k4 := pow2_lt (Int.lt_of_le_of_lt k2 h3)
  omega
theorem halved_shl {A : Int} {N n : Nat} (h : 0 < A) (k : Halved A n) : Halved (A * 2 ^ N) (n + N) := by
  rcases k with ⟨k, _⟩ | ⟨m, k⟩
  · omega
  · refine .inr ⟨m, ?_⟩
    rw [k, Int.pow_add, Int.mul_assoc, Int.mul_assoc, Int.mul_comm (2 * (m : Int) + 1)]
theorem halved_le {A : Int} {n : Nat} (h : 0 < A) (k : Halved A n) (hA : A < 4294967296 ^ 20) : n ≤ 640 := by
  rcases k with ⟨k, _⟩ | ⟨m, k⟩
  · omega
  · have hp : (0 : Int) < 2 ^ n := Int.pow_pos (by decide)
    have k1 : (2 : Int) ^ n * 1 ≤ 2 ^ n * (2 * m + 1) := Int.mul_le_mul_of_nonneg_left (by omega) (Int.le_of_lt hp)
    have e : (4294967296 : Int) ^ 20 = 2 ^ 640 := by decide +kernel
    have := pow2_lt (m := n) (n := 640) (by omega)
    omega
/-- What holds of the world while the two variables are made. -/
def Okay (w : World) (X : Nat) (a b u t : Value) (z : Int) (W : World) : Prop := Two2 X a b W ∧ Below w.heap.size w W ∧ IsNum W (.agg #[u, t]) z
theorem Okay.alloc {w W : World} {X : Nat} {a b u t : Value} {z : Int} {o : Obj} (h : Okay w X a b u t z W) : Okay w X a b u t z (W.alloc o) :=
  ⟨h.1.alloc, below_alloc' h.2.1, h.2.2.below (below_one W o)⟩
theorem Okay.set {w W : World} {X M : Nat} {a b u t u' t' : Value} {z : Int} (h : Okay w X a b u t z W) (hX : X < w.heap.size) (k : Kept w M 28 W) : Okay w X a b u t z ((W.setCell ⟨M, 0, none⟩ u').setCell ⟨M, 1, none⟩ t') := by
  obtain ⟨k1, k2, x, y, k3⟩ := k
  obtain ⟨cur, k4⟩ := heap_setCell_cells (p := ⟨M, 0, none⟩) (u := u') k3
  exact ⟨h.1.set (by omega), (h.2.1.setCell k2 _).setCell k2 _, (h.2.2.set u' k3 (by decide)).set t' k4 (by decide)⟩
theorem kept_far {w W : World} {M N : Nat} {u v : Value} (h : Kept w M 28 W) (k : Kept w N 28 W) (hne : N ≠ M) : Kept w M 28 ((W.setCell ⟨N, 0, none⟩ u).setCell ⟨N, 1, none⟩ v) := by
  obtain ⟨h1, h2, x, y, h3⟩ := h
  exact ⟨(h1.setCell k.2.1 _).setCell k.2.1 _, h2, x, y, by simp [World.setCell, Array.getElem?_modify, hne, h3]⟩
theorem two_new {W : World} {u t : Value} : Two2 W.heap.size u t (W.alloc (.cells #[u, t] 28)) := ⟨by simp [go_sem], by simp [go_sem]⟩
theorem Okay.low {w W : World} {X M : Nat} {a b u t : Value} {z : Int} (h : Okay w X a b u t z W) (h2 : Two2 M u t W) : LowMeet w X M a b z W := ⟨u, t, h2, h.2.2, h.1, h.2.1⟩
theorem low1 {w W : World} {X : Nat} {a b u t : Value} {z : Int} {o : Obj} (h : Okay w X a b u t z W) : LowMeet w X W.heap.size a b z ((W.alloc (.cells #[u, t] 28)).alloc o) := h.alloc.alloc.low two_new.alloc
theorem low2 {w W : World} {X : Nat} {a b u t : Value} {z : Int} {o : Obj} (h : Okay w X a b u t z W) : LowMeet w X (W.heap.size + 1) a b z ((W.alloc o).alloc (.cells #[u, t] 28)) := by
  have q := (h.alloc (o := o)).alloc.low two_new
  rwa [World.size_alloc] at q
theorem low3 {w W : World} {X M : Nat} {a b u t : Value} {z : Int} {o : Obj} (h : Okay w X a b u t z W) (hX : X < w.heap.size) (k : Kept w M 28 W) : LowMeet w X M a b z (((W.setCell ⟨M, 0, none⟩ u).setCell ⟨M, 1, none⟩ t).alloc o) :=
  (h.set hX k).alloc.low (Two2.alloc (set_cells k u t))
theorem low4 {w W : World} {X M N : Nat} {a b u t u' t' : Value} {z : Int} (h : Okay w X a b u t z W) (hX : X < w.heap.size) (k : Kept w M 28 W) (k' : Kept w N 28 W) (hne : M ≠ N) :
    LowMeet w X M a b z ((((W.setCell ⟨M, 0, none⟩ u).setCell ⟨M, 1, none⟩ t).setCell ⟨N, 0, none⟩ u').setCell ⟨N, 1, none⟩ t') :=
  ((h.set hX k).set hX (kept_far k' k hne)).low (Two2.set (set_cells k u t) hne)
theorem low5 {w W : World} {X N : Nat} {a b u t u' t' : Value} {z : Int} (h : Okay w X a b u t z W) (hX : X < w.heap.size) (k' : Kept w N 28 W) :
    LowMeet w X W.heap.size a b z (((W.setCell ⟨N, 0, none⟩ u').setCell ⟨N, 1, none⟩ t').alloc (.cells #[u, t] 28)) := by
  have q := (h.set (u' := u') (t' := t') hX k').alloc.low two_new
  rwa [World.size_setCell, World.size_setCell] at q
set_option maxRecDepth 100000 in
set_option maxHeartbeats 2000000 in
theorem walk_short (a0 : Option Addr) (len0 cap0 : Nat) (z0 : List Int) (n : Int) (n1 : -9223372036854775808 ≤ n) (n2 : n ≤ 9223372036854775807) (w : World) (g0 : WList w (.slice a0 len0 cap0) z0) (l0 : z0.length = len0) (hT : Tab w) (k0 : len0 ≤ 20) :
    Calls Tryd.prog 7 #[.slice a0 len0 cap0, .int .i64 n] w fun e w' => e = .returned (.bool true) ∧ Below w.heap.size w w' := by
  have HU := Lib.hid g0
  have HT := Lib.hid hT
  have hr0 := wv_range g0.2.1
  have hq0 := q_mono (m := z0.length) (n := 20) (by omega)
  have hA : wv z0 < 4294967296 ^ 20 := by omega
  have HA : Hid (0 ≤ wv z0 ∧ wv z0 < 4294967296 ^ 20) := Lib.hid ⟨hr0.1, hA⟩
  have HS0 := Lib.hid (sized20 hr0.1 hA)
  obtain ⟨N, hN⟩ : ∃ N : Nat, max n 0 = (N : Int) := ⟨n.toNat, by omega⟩
  have HN0 := Lib.hid (fun w1 (h : Below w.heap.size w w1) => num_words _ z0 w1 (HU.out.below h) (by omega))
  have HSl := Lib.hid (fun w1 (h : Below w.heap.size w w1) => shl_post _ z0 w1 (HU.out.below h) (by omega) n)
  have HSr := Lib.hid (fun w1 (h : Below w.heap.size w w1) => shr_any _ z0 w1 (HU.out.below h) (by omega) n N hN (by omega))
  clear g0 hT hr0 hq0 hA
  go_enter Tryd.func7, Tryd.ntmps7
  go_wp2_with fail
  refine (HN0.out _ (Below.refl _ _)).mono ?_; rintro e w2 ⟨x, rfl, hx, hb2⟩
  obtain ⟨xb, xp, xl, xc, rfl⟩ := hx.shape
  have hb3 := below_one w2 (.cells #[.bool xb, .slice xp xl xc] 28)
  have hE3 := Lib.hid (hb2.trans (hb3.mono hb2.size))
  have HX3 := Lib.hid (hx.below hb3)
  have hc1 : (w2.alloc (.cells #[.bool xb, .slice xp xl xc] 28)).cell? ⟨w2.heap.size, 0, none⟩ = some (.bool xb) := by simp [go_sem]
  have hc2 : (w2.alloc (.cells #[.bool xb, .slice xp xl xc] 28)).cell? ⟨w2.heap.size, 1, none⟩ = some (.slice xp xl xc) := by simp [go_sem]
  have hc := Lib.hid (And.intro hc1 hc2)
  clear hx hb2 hb3 HN0 hc1 hc2
  go_wp2_with fail
  generalize w2.alloc (.cells #[.bool xb, .slice xp xl xc] 28) = W at *
  refine (HSl.out _ hE3.out).mono ?_; rintro e w4 ⟨lv, ok, rfl, hb4, hl⟩
  have hE4 := Lib.hid (hE3.out.trans (hb4.mono hE3.out.size))
  have hb4 := Lib.hid hb4
  have hl := Lib.hid hl
  clear HSl
  go_wp2_with fail
  refine (HSr.out _ hE4.out).mono ?_; rintro e w5 ⟨rv, rz, rfl, hF⟩
  have hNr := Fresh.isNat ⟨rv, rz, rfl, hF⟩ (by omega)
  have hb5 := hNr.2
  have hE5 := Lib.hid (hE4.out.trans (hb5.mono hE4.out.size))
  have HX5 := Lib.hid ((HX3.out.below hb4.out).below hb5)
  have HR5 := Lib.hid hNr.1
  have hc5 := Lib.hid (And.intro (cell_later hb5 (cell_later hb4.out hc.out.1)) (cell_later hb5 (cell_later hb4.out hc.out.2)))
  have hb5 := Lib.hid hb5
  clear hF hNr hE3 hE4 HX3 HSr hc
  have HTw := Lib.hid (fun w1 => two_num (min (N : Int) 2000) (min N 2000) (Lib.hid (by omega)) w1 (by omega))
  have RD := Lib.hid (fun w1 u v (hu : IsNum w1 u (wv z0)) (hv : IsNum w1 v (2 ^ min N 2000)) => low_div u v HA.out.1 HA.out.2 w1 hu hv)
  go_upto_region 7 with fail
  go_cut [10, 11] (fun s10 s11 wx => ∃ M1 M2 : Nat, s10 = .pointer (some ⟨M1, 0, none⟩) ∧ s11 = .pointer (some ⟨M2, 0, none⟩) ∧ Hid (LowMeet w5 w2.heap.size M1 (.bool xb) (.slice xp xl xc) (wv z0 / 2 ^ N) wx))
  case first =>
    have hk : Two2 w2.heap.size (.bool xb) (.slice xp xl xc) w5 := hc5.out
    have hBw : Below w5.heap.size w5 w5 := Below.refl _ _
    have hX5 := Two2.lt hc5.out
    go_region_held3 (fun w' => w'.cell? ⟨w2.heap.size, 0, none⟩ = some (.bool xb) ∧ w'.cell? ⟨w2.heap.size, 1, none⟩ = some (.slice xp xl xc))
      (first | (with_reducible assumption) | (repeat' (first | (with_reducible assumption) | (with_reducible apply Two2.drew) | (with_reducible apply Two2.set) | (with_reducible apply Two2.alloc) | omega)))
      (first
        | (go_at_call 16; refine (HTw.out _).mono ?_; rintro e w6 ⟨tw, rfl, htw, hb6⟩; replace hb6 := from_drew hb6; have hk := (by first | exact Two2.call hk hb6 | exact Two2.call (Two2.alloc hk) hb6 | exact Two2.call (Two2.alloc (Two2.alloc hk)) hb6); (first
            | (have kB : Kept w5 (w5.heap.size + 1) 28 w6 := (kept_second hBw).call hb6; have kA : Kept w5 w5.heap.size 28 w6 := (kept_alloc (kept_new hBw)).call hb6; obtain ⟨l1, l2, l3⟩ := kept_lt kA; obtain ⟨l4, l5, l6⟩ := kept_lt kB)
            | (have kA : Kept w5 w5.heap.size 28 w6 := (kept_new hBw).call hb6; obtain ⟨l1, l2, l3⟩ := kept_lt kA)
            | skip); have hBw := (by first | exact below_then hBw hb6 | exact below_then (below_alloc' hBw) hb6 | exact below_then (below_alloc' (below_alloc' hBw)) hb6); have hz6 : w5.heap.size ≤ w6.heap.size := hBw.size)
        | (go_at_call 33; refine (RD.out _ _ _ ?_ ?_).mono ?_; (first | exact HX5.out.below hBw | exact HX5.out.below (below_alloc' hBw) | exact HX5.out.below (below_alloc' (below_alloc' hBw))); (first | exact htw | exact htw.below (below_one _ _) | exact (htw.below (below_one _ _)).below (below_one _ _)); rintro e w7 ⟨lo, re, rfl, hlo, hre, hb7⟩; obtain ⟨lb, lp, ll, lc, rfl⟩ := hlo.shape; obtain ⟨rb, rp, rl, rc, rfl⟩ := hre.shape; have hk := (by first | exact Two2.call hk hb7 | exact Two2.call (Two2.alloc hk) hb7 | exact Two2.call (Two2.alloc (Two2.alloc hk)) hb7); (first
            | (have kD : Kept w5 (w6.heap.size + 1) 28 w7 := (kept_second hBw).call hb7; have kC : Kept w5 w6.heap.size 28 w7 := (kept_alloc (kept_new hBw)).call hb7; obtain ⟨⟨x1, hx1⟩, ⟨y1, hy1⟩, hf1, hf2⟩ := kC.cells; obtain ⟨g1C, g2C, g3C⟩ := kept_lt kC; obtain ⟨⟨x2, hx2⟩, ⟨y2, hy2⟩, hf3, hf4⟩ := kD.cells; obtain ⟨g1D, g2D, g3D⟩ := kept_lt kD)
            | (have kC : Kept w5 w6.heap.size 28 w7 := (kept_new hBw).call hb7; first | (replace kA := (kept_alloc kA).call hb7; obtain ⟨⟨x1, hx1⟩, ⟨y1, hy1⟩, hf1, hf2⟩ := kC.cells; obtain ⟨g1C, g2C, g3C⟩ := kept_lt kC; obtain ⟨⟨x2, hx2⟩, ⟨y2, hy2⟩, hf3, hf4⟩ := kA.cells; obtain ⟨g1A, g2A, g3A⟩ := kept_lt kA) | (obtain ⟨⟨x1, hx1⟩, ⟨y1, hy1⟩, hf1, hf2⟩ := kC.cells; obtain ⟨g1C, g2C, g3C⟩ := kept_lt kC))
            | (replace kB := kB.call hb7; replace kA := kA.call hb7; obtain ⟨⟨x1, hx1⟩, ⟨y1, hy1⟩, hf1, hf2⟩ := kB.cells; obtain ⟨g1B, g2B, g3B⟩ := kept_lt kB; obtain ⟨⟨x2, hx2⟩, ⟨y2, hy2⟩, hf3, hf4⟩ := kA.cells; obtain ⟨g1A, g2A, g3A⟩ := kept_lt kA)
            | (replace kA := kA.call hb7; obtain ⟨⟨x1, hx1⟩, ⟨y1, hy1⟩, hf1, hf2⟩ := kA.cells; obtain ⟨g1A, g2A, g3A⟩ := kept_lt kA)
            | skip); have hBw := (by first | exact below_then hBw hb7 | exact below_then (below_alloc' hBw) hb7 | exact below_then (below_alloc' (below_alloc' hBw)) hb7); have hz7 : w5.heap.size ≤ w7.heap.size := hBw.size))
    all_goals
      clear HTw RD hb4 hb5 hl HT HA HS0 HU hE5 HR5 HX5
      have hO : Okay w5 w2.heap.size (.bool xb) (.slice xp xl xc) (.bool lb) (.slice lp ll lc) (wv z0 / 2 ^ N) w7 := ⟨hk, hBw, hlo⟩
      go_wp2_with fail
      go_meet
      first
        | with_reducible exact ⟨_, _, rfl, rfl, Lib.hid (low1 hO)⟩
        | with_reducible exact ⟨_, _, rfl, rfl, Lib.hid (low2 hO)⟩
        | with_reducible exact ⟨_, _, rfl, rfl, Lib.hid (low3 hO hX5 kA)⟩
        | with_reducible exact ⟨_, _, rfl, rfl, Lib.hid (low3 hO hX5 kC)⟩
        | with_reducible exact ⟨_, _, rfl, rfl, Lib.hid (low5 hO hX5 kA)⟩
        | with_reducible exact ⟨_, _, rfl, rfl, Lib.hid (low5 hO hX5 kC)⟩
        | with_reducible exact ⟨_, _, rfl, rfl, Lib.hid (low4 hO hX5 kA kB (by omega))⟩
        | with_reducible exact ⟨_, _, rfl, rfl, Lib.hid (low4 hO hX5 kB kA (by omega))⟩
        | with_reducible exact ⟨_, _, rfl, rfl, Lib.hid (low4 hO hX5 kC kD (by omega))⟩
        | with_reducible exact ⟨_, _, rfl, rfl, Lib.hid (low4 hO hX5 kD kC (by omega))⟩
        | with_reducible exact ⟨_, _, rfl, rfl, Lib.hid (low4 hO hX5 kA kC (by omega))⟩
        | with_reducible exact ⟨_, _, rfl, rfl, Lib.hid (low4 hO hX5 kC kA (by omega))⟩
  case rest =>
    obtain ⟨M1, M2, rfl, rfl, hm⟩ := hcut
    obtain ⟨u, t, q1, q2, q3, q4⟩ := hm.out
    obtain ⟨yb, yp, yl, yc, e⟩ := q2.shape
    simp only [Value.agg.injEq, Array.mk.injEq, List.cons.injEq, and_true] at e
    obtain ⟨rfl, rfl⟩ := e
    have hE6 := Lib.hid (hE5.out.trans (q4.mono hE5.out.size))
    have HI := Lib.hid (isw_nat rv _ _ 20 _ (HR5.out.below q4) (Int.lt_of_le_of_lt (Int.ediv_le_self _ HA.out.1) HA.out.2) (by decide) q2)
    have HX6 := Lib.hid (HX5.out.below q4)
    have hb6 := Lib.hid ((hb5.out.trans (q4.mono hb5.out.size)))
    have hk6 := Lib.hid q3
    obtain ⟨f1, f2⟩ := q1
    clear hm q2 q3 q4 HX5 HR5 HTw RD hE5 hb5
    go_wp2_with fail
    refine (HI.out).mono ?_; rintro e w8 ⟨rfl, hb8⟩
    have hE8 := Lib.hid (hE6.out.trans (hb8.mono hE6.out.size))
    have HX8 := Lib.hid (HX6.out.below hb8)
    have hb8' := Lib.hid (hb6.out.trans (hb8.mono hb6.out.size))
    have hk8 := Lib.hid (Two2.call hk6.out hb8)
    clear hb8 HX6 hk6 hE6 HI f1 f2 hb6
    rcases hl.out with ⟨rfl, rfl, hn⟩ | ⟨rfl, hn0, hn1, hln⟩
    · clear hl
      rcases (show n < 0 ∨ ¬ n < 0 ∧ 8192 < n by omega) with hn2 | ⟨hn2, hn3⟩
      all_goals
        go_wp2_with fail
        refine (awake2_any _ (HT.out.call hE8.out)).mono ?_; rintro e w9 ⟨rfl, hb9⟩
        have hE := hE8.out.trans (hb9.mono hE8.out.size)
        go_wp2_with fail
        go_ret
        exact ⟨ret_bool (by simp), hE⟩
    · have HL8 := Lib.hid (hln.below hb8'.out)
      have hn2 : ¬ n < 0 := by omega
      have hn3 : ¬ 8192 < n := by omega
      obtain rfl : n = (N : Int) := by omega
      simp only [Int.toNat_natCast] at HL8
      clear hl hln hb8' hN
      have hNl : N ≤ 8192 := by omega
      have hLw := Lib.hid (words_shl HA.out.1 HA.out.2 hNl)
      by_cases hn4 : 2000 < (N : Int)
      · have hA0 := HA.out
        obtain ⟨lw, hlw, llw, elw⟩ := short_of HL8.out hLw.out
        have hb8l := hE8.out
        have HSr := Lib.hid (shr_any lv lw w8 hlw (by omega) (N : Int) N (by omega) (by omega))
        rw [elw, Int.mul_ediv_cancel _ (Int.ne_of_gt (Int.pow_pos (by decide)))] at HSr
        have HLw := Lib.hid (And.intro hlw elw)
        have HXl := Lib.hid (num_nought HX8.out)
        clear hlw llw elw hb8l HX8 hLw
        go_wp2_with fail
        refine (HSr.out).mono ?_; rintro e w9 ⟨sv, sz, rfl, hF⟩
        have hNs := Fresh.isNat ⟨sv, sz, rfl, hF⟩ (by have := (HLw.out.1).2.2; omega)
        have hb9 := hNs.2
        have hE9 := Lib.hid (hE8.out.trans (hb9.mono hE8.out.size))
        have HLw9 := Lib.hid (HLw.out.1.below hb9)
        have hk9 := Lib.hid (Two2.call hk8.out hb9)
        obtain ⟨sl, hs, -, es⟩ := hNs.1
        have HC := Lib.hid (cmp_any sv _ sl z0 w9 hs (HU.out.below hE9.out))
        rw [cmpI_eq es] at HC
        clear hF hNs hb9 hs es HSr hE8 hk8 HL8
        go_wp2_with fail
        refine (HC.out).mono ?_; rintro e w10 ⟨rfl, nd, rfl⟩
        have hb10 := below_drewN (Below.refl w9.heap.size w9) nd
        generalize w9.drewN nd = w10 at *
        have hE10 := Lib.hid (hE9.out.trans (hb10.mono hE9.out.size))
        have HLw10 := Lib.hid (HLw9.out.below hb10)
        obtain ⟨f1, f2⟩ := Two2.call hk9.out hb10
        clear hb10 hE9 HLw9 hk9 HC
        by_cases hA1 : wv z0 = 0
        · obtain rfl : xl = 0 := HXl.out.1 hA1
          go_wp2_with fail
          refine (awake2_any _ (HT.out.call hE10.out)).mono ?_; rintro e w11 ⟨rfl, hb11⟩
          have hE := hE10.out.trans (hb11.mono hE10.out.size)
          go_wp2_with fail
          go_ret
          exact ⟨ret_bool (by simp), hE⟩
        · have hxl : ((xl : Int) == 0) = false := by simp; intro h; exact hA1 (HXl.out.2 h)
          have hpos : 0 < wv z0 := by omega
          have HB1 := Lib.hid (bits_any lv lw w10 HLw10.out)
          have HB2 := Lib.hid (bits_any _ z0 w10 (HU.out.below hE10.out))
          rw [HLw.out.2, bits_shl hpos] at HB1
          have hbw : bitsZ (wv z0) ≤ 640 := Nat.le_trans (bits_words HU.out.2.1 hpos) (by omega)
          generalize bitsZ (wv z0) = bz at *
          have HN1 := Lib.hid (noughts_any lv lw w10 HLw10.out (HT.out.call hE10.out))
          have HN2 := Lib.hid (noughts_any _ z0 w10 (HU.out.below hE10.out) (HT.out.call hE10.out))
          rw [HLw.out.2] at HN1
          have hi1 : IntKind.i64.wrap ((bz : Int) + N) = (bz : Int) + N := by rw [IntKind.wrap_i64]; omega
          have hp2 := Lib.hid hpos
          clear HLw HLw10 hA1 hA0 hpos HXl
          go_wp2_with fail
          refine (HB1.out).mono ?_; rintro e w' ⟨rfl, rfl⟩
          go_wp2_with fail
          refine (HB2.out).mono ?_; rintro e w' ⟨rfl, rfl⟩
          go_wp2_with fail
          refine (HN1.out).mono ?_; rintro e w' ⟨n5, rfl, h5, rfl⟩
          go_wp2_with fail
          refine (HN2.out).mono ?_; rintro e w' ⟨n6, rfl, h6, rfl⟩
          obtain rfl : n5 = n6 + N := halved_unique h5 (halved_shl hp2.out h6)
          have h6l := halved_le hp2.out h6 HA.out.2
          have hi2 : IntKind.i64.wrap ((n6 : Int) + N) = (n6 : Int) + N := by rw [IntKind.wrap_i64]; omega
          clear h5 h6
          go_wp2_with fail
          refine (awake2_any _ (HT.out.call hE10.out)).mono ?_; rintro e w11 ⟨rfl, hb11⟩
          have hE := hE10.out.trans (hb11.mono hE10.out.size)
          go_wp2_with fail
          go_ret
          exact ⟨ret_bool (by simp), hE⟩
      · have HS2 := Lib.hid (sized_two (show N ≤ 2000 by omega))
        have HTw := Lib.hid (fun w1 => two_num (N : Int) N (Lib.hid rfl) w1 (by omega))
        have HM := Lib.hid (fun w1 u v (hu : IsNum w1 u (wv z0)) (hv : IsNum w1 v (2 ^ N)) => num_mul u v _ _ 1000 w1 hu hv HS0.out HS2.out (by decide))
        go_wp2_with fail
        have hk : Two2 w2.heap.size (.bool xb) (.slice xp xl xc) w8.drew := Two2.call hk8.out (Below.refl _ _).drew
        have hBw : Below w8.heap.size w8 w8.drew := (Below.refl _ _).drew
        go_region_held3 (fun w' => w'.cell? ⟨w2.heap.size, 0, none⟩ = some (.bool xb) ∧ w'.cell? ⟨w2.heap.size, 1, none⟩ = some (.slice xp xl xc))
          (with_reducible exact hk)
          (first
            | (go_at_call 16; refine (HTw.out _).mono ?_; rintro e w9 ⟨tw, rfl, htw, hb9⟩; have hk := Two2.call hk hb9; have hBw := hBw.trans (hb9.mono hBw.size))
            | (go_at_call 31; refine (HM.out _ _ _ (HX8.out.below hBw) htw).mono ?_; rintro e w10 ⟨mv, rfl, hmv, hb10⟩; have hk := Two2.call hk hb10; have hBw := hBw.trans (hb10.mono hBw.size))
            | (go_at_call 18; refine (isw_nat lv mv _ 276 _ (IsNat.below HL8.out hBw) hLw.out (by decide) hmv).mono ?_; rintro e w11 ⟨rfl, hb11⟩; have hk := Two2.call hk hb11; have hBw := hBw.trans (hb11.mono hBw.size))
            | (go_at_call 11; refine (awake2_any _ (HT.out.call (hE8.out.trans (hBw.mono hE8.out.size)))).mono ?_; rintro e w12 ⟨rfl, hb12⟩; have hk := Two2.call hk hb12; have hBw := hBw.trans (hb12.mono hBw.size)))
        have hE := hE8.out.trans (hBw.mono hE8.out.size)
        clear hk hBw
        go_wp2_with fail
        go_ret
        exact ⟨ret_bool (by simp), hE⟩
theorem walk (a0 : Option Addr) (len0 cap0 : Nat) (z0 : List Int) (n : Int) (w : World) (g0 : Given .u32 w (.slice a0 len0 cap0) z0) (m0 : len0 ≤ 9223372036854775807) (hn : (Lit.int IntKind.i64 n).wf = true) (hT : Tab w) :
    Calls Tryd.prog 7 #[.slice a0 len0 cap0, .int .i64 n] w fun e w' => e = .returned (.bool true) ∧ Below w.heap.size w w' := by
  have l0 := len_max g0
  have hn' : -9223372036854775808 ≤ n ∧ n ≤ 9223372036854775807 := by simp [Lit.wf, IntKind.min, IntKind.max, IntKind.signed, IntKind.bits] at hn; omega
  by_cases h : len0 ≤ 20
  · exact walk_short a0 len0 cap0 z0 n hn'.1 hn'.2 w (g0.wlist (by omega)) l0 hT h
  · exact walk_long a0 len0 cap0 n w hT (by omega) m0
set_option maxRecDepth 100000 in
theorem lifted (os : Os) (started : os.Started) (H : Type) (enc : TypeId × Value → H) :
    ReturnsInHanded {} Tryd.checked os 7 .any (fun w args => (Rows.natShiftsSpec.pre enc Tryd.prog Tryd.f7 [] false w args ∧ laidMetH Tryd.prog laid2 w) ∧ sizedMet enc Tryd.prog Tryd.f7 (OpenSpec.ofChange Rows.natShiftsSpec) false w args)
      (Rows.natShiftsSpec.post enc Tryd.prog Tryd.f7 false true false false) := by
  refine returnsInHanded_of_change_and (C := Tryd.checked) (X := fun w _ => laidMetH Tryd.prog laid2 w) (fun _ _ _ hh h => h.of_heap hh) own2 started (by kernel_rfl) Tryd.func7
    (ChangeSpec.witness_shaped (enc := enc) (C := Tryd.checked) (os := os) (X := fun w _ => laidMetH Tryd.prog laid2 w) false (World.doorLaid Tryd.prog 400 os) #[.slice none 0 0, .int .i64 0] 8 rfl (World.shaped_of_RefB (by kernel_rfl) (by kernel_rfl)) (by kernel_rfl) (by kernel_rfl) (by kernel_rfl) (door_met2 os _)) ?_
  intro W base args ds gs before hval0 hW _ _ hL _
  have hTab := tab_of hL
  have hval : ∀ (j : Nat) t v, Tryd.f7.params[j]? = some t → args[j]? = some v → Value.okWide Tryd.prog W .any base t v := hval0
  have hW' := hW
  obtain ⟨p, q, hA0, hV, rfl, hfz, hnd⟩ := hW
  have hA : DataW.TrodAll enc Tryd.prog W 0 (fun _ => true) true Tryd.f7.params.toList args.toList ds p := hA0
  rw [Tryd.params7] at hA hval
  obtain ⟨v0, vs0, d0, ds0, p0, q0, hargs, rfl, rfl, h0, r0⟩ := trodAll_cons hA
  obtain ⟨v1, vs1, d1, ds1, p1, q1, rfl, rfl, rfl, h1, r1⟩ := trodAll_cons r0
  obtain ⟨rfl, rfl, rfl⟩ := trodAll_nil r1
  obtain rfl : args = #[v0, v1] := by cases args; simp_all
  obtain ⟨rfl, rfl⟩ := trodVars_none hV
  obtain ⟨a0, len0, cap0, rfl⟩ := okWide_slice Tryd.underlying22 (hval 0 22 v0 rfl rfl)
  have k0 := h0
  have lt0 : ∀ x ∈ p0, x.block < W.heap.size := by obtain ⟨m, hm⟩ := k0; exact DataW.trod_lt m _ _ _ hm
  obtain ⟨z0, w0, m0⟩ : ∃ zs, Given .u32 W (.slice a0 len0 cap0) zs ∧ len0 ≤ 9223372036854775807 := by
    obtain ⟨fuel, hf⟩ := h0
    rcases open_ints Tryd.underlying22 Tryd.underlying31 (by kernel_rfl) hf with ⟨hcs, _⟩ | ⟨x, l, c, zs, hcs, _, hl, hm, hz, _, hcell, hwz⟩
    · simp [Value.cells] at hcs
      obtain ⟨rfl, rfl, rfl⟩ := hcs
      exact ⟨[], given_nil, by decide⟩
    · simp [Value.cells] at hcs
      obtain ⟨rfl, rfl, rfl⟩ := hcs
      exact ⟨_, given_row hl (by simpa using hz) hcell hwz, by unfold maxLen at hm; omega⟩
  obtain ⟨a1, rfl, rfl, rfl, w1⟩ := open_int Tryd.underlying3 (hval 1 3 v1 rfl rfl) h1
  clear hA0 hval0
  refine (walk a0 len0 cap0 z0 a1 W w0 m0 w1 hTab).mono fun e W' ⟨he, bel⟩ => ?_
  subst he
  exact ⟨_, rfl, _, _, _, [], _, [], hW', trodAll_mk1 (shut_bool Tryd.underlying4 _), (trodAll_cons_mk (Below.trod laidOut2 (by kernel_rfl) (of_decide_eq_true (by kernel_rfl)) k0 bel lt0) (trodAll_cons_mk (shut_int Tryd.underlying3 w1) trodAll_mk0)), rfl, bel.frame _, fun h => by cases h⟩

theorem over : Rows.natShiftsRow.holds Tryd.pinned (OpenSpec.ofChange Rows.natShiftsSpec) :=
  OpenClaim.holds_of_wide 7 Tryd.f7 rfl rfl rfl rfl rfl rfl rfl ⟨rfl, rfl, rfl, rfl, rfl⟩ rfl rfl rfl rfl rfl (by kernel_rfl) Tryd.func7 (by kernel_rfl)
    (of_decide_eq_true (by kernel_rfl)) (by unfold Func.isWrapper; first | (rw [if_pos (by decide +kernel)]; kernel_rfl) | (rw [if_neg (by decide +kernel)]; exact ⟨rfl, rfl⟩))
    (fun os started H enc _ => lifted os started H enc)
theorem row_holds : Rows.NatShiftsSaid := over
end Go.Proofs.YtfaglcfoamfelaaDoor.natShifts
namespace Go.Proofs.YtfaglcfoamfelaaDoor
/-- The statement: the tied card. -/
theorem natShifts_holds : Rows.NatShiftsCardSaid :=
  Claim7.holds_tied_plain_at .later [] [.data] true _ false
    natShifts.row_holds (fun _ h => by cases h) (by kernel_rfl) (fun _ h => by cases h) natShifts_row_tie rfl ⟨rfl, rfl⟩ (by kernel_rfl) rfl
    (fun f fn hf hfn => by
      obtain rfl : f = 7 := Option.some.inj ((show Tryd.prog.funcNamed "bushel/bushellaw02.NatShifts" = some 7 by kernel_rfl).symm.trans hf) |>.symm
      obtain rfl : fn = Tryd.f7 := (Option.some.inj (Tryd.func7.symm.trans hfn)).symm
      exact ⟨by kernel_rfl, fun j t ht => by
        rw [Tryd.params7] at ht
        have hm : t ∈ [22, 3] := by simpa using Array.mem_of_getElem? ht
        have hall : ([22, 3].all fun u => !Tryd.prog.wantsStandIn u) = true := by kernel_rfl
        exact (show Tryd.prog.wantsStandIn t = false by simpa using List.all_eq_true.1 hall t hm)⟩)
    (by kernel_rfl)
#print axioms natShifts_holds
end Go.Proofs.YtfaglcfoamfelaaDoor
