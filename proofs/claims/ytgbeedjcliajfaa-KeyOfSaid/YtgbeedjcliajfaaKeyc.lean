/- Layer 13: the program's split, Codes, Code, Down, Of. -/
import Derived.Test.YtgbeedjcliajfaaKeyb
namespace Go.Proofs.Ytgbeedjcliajfaa
set_option maxRecDepth 100000
open Go.RowKit
set_option linter.unusedVariables false
abbrev IOwn (w : World) (B : Nat) (v : Value) (l : List Int) : Prop := w.ownsRow B 3 1 v l.length (l.map (Value.int .i64))
/-- The codes of a key. -/
def codesL (ds : List (ByteArray × Int)) (m q : Int) : List Int := (List.range ds.length).map (codG (dz ds) (bitG m) ds.length q)
theorem codes_len (ds : List (ByteArray × Int)) (m q : Int) : (codesL ds m q).length = ds.length := by simp [codesL]
theorem codes_get (ds : List (ByteArray × Int)) (m q : Int) {k : Nat} (hk : k < ds.length) : cz (codesL ds m q) k = codG (dz ds) (bitG m) ds.length q k := by
  simp [cz, codesL, List.getD, hk]
/-- A row of the call's own that is filled, and all that was. -/
def IFill (w : World) (g cap : Nat) (out : List Int) (wr : World) : Prop := wr.ownsRow w.heap.size 3 1 (.slice (some ⟨g, 0, none⟩) out.length cap) out.length (out.map (Value.int .i64)) ∧ Below w.heap.size w wr ∧ w.heap.size ≤ g ∧ g < wr.heap.size
theorem IFill.set {w wr : World} {g cap : Nat} {out : List Int} (h : IFill w g cap out wr) (j : Nat) (x : Int) : IFill w g cap (out.set j x) (wr.setCell ⟨g, j, none⟩ (.int .i64 x)) := by
  refine ⟨?_, h.2.1.setCell h.2.2.1 _, h.2.2.1, by simpa using h.2.2.2⟩
  have := (World.ownsRow.stored h.1 j (.int .i64 x)).1
  simpa [List.map_set] using this
theorem IFill.cells {w wr : World} {g cap : Nat} {out : List Int} (h : IFill w g cap out wr) {j : Nat} (hj : j < out.length) : wr.cell? ⟨g, j, none⟩ = some (.int .i64 (out.getD j 0)) ∧ wr.frozen? ⟨g, j, none⟩ = false := by
  have h1 := h.1.1
  rw [List.length_map, Nat.mul_one] at h1
  refine ⟨?_, World.ownsRow.frozenAt h.1 j⟩
  rw [World.ownsRow.cellAt h.1 j (by omega), List.getElem?_map, List.getElem?_eq_getElem hj, List.getD, List.getElem?_eq_getElem hj]
  rfl
theorem ifill_made {w w0 : World} {n : Nat} {z : Array Value} (hz : z = #[.int .i64 0]) (hown : w0.ownsRow w.heap.size 3 1 (.slice (some ⟨w.heap.size, 0, none⟩) n n) n (madeCells z (n * 1)).toList) (hg : w.grownBy w0 none) :
    IFill w w.heap.size n (List.replicate n 0) w0 := by
  subst hz
  have hl := World.ownsRow.lt hown w.heap.size rfl
  refine ⟨?_, (Below.refl _ _).grown hg (Nat.le_refl _) (fun k hk => by cases hk), Nat.le_refl _, hl.2⟩
  rw [toList_madeCells_one] at hown
  simpa using hown
/-- After k steps: the last k codes stand, and what is left of the key. -/
def SplitAt (ds : List (ByteArray × Int)) (m q : Int) (k : Nat) (out : List Int) (r : Int) : Prop :=
  out.length = ds.length ∧ (∀ j, ds.length ≤ j + k → j < ds.length → out.getD j 0 = codG (dz ds) (bitG m) ds.length q j) ∧ r = q / tailG (dz ds) (bitG m) (ds.length - k) k
theorem SplitAt.start (ds : List (ByteArray × Int)) (m q : Int) : SplitAt ds m q 0 (List.replicate ds.length 0) q := ⟨by simp, fun j h1 h2 => by omega, by simp [tailG]⟩
theorem SplitAt.range {ds : List (ByteArray × Int)} {m q : Int} {k : Nat} {out : List Int} {r : Int} (h : SplitAt ds m q k out r) (hz : sizB ds = true) (hk : k ≤ ds.length) (q0 : 0 ≤ q) : 0 ≤ r ∧ r ≤ q := by
  obtain ⟨-, -, rfl⟩ := h
  have := tailG_pos (p := bitG m) (i := ds.length - k) (fun j hj => sizes_one hz j hj) k (by omega)
  refine ⟨Int.ediv_nonneg q0 (by omega), Int.ediv_le_self _ q0⟩
theorem SplitAt.step {ds : List (ByteArray × Int)} {m q : Int} {k i : Nat} {out : List Int} {r : Int} (h : SplitAt ds m q k out r) (hz : sizB ds = true) (hi : k + 1 + i = ds.length) :
    (bitG m i = true → SplitAt ds m q (k + 1) ((out.set i (-1)).set i (r % dz ds i)) (r / dz ds i)) ∧ (bitG m i = false → SplitAt ds m q (k + 1) (out.set i (-1)) r) := by
  obtain ⟨h1, h2, h3⟩ := h
  have e1 : ds.length - k = i + 1 := by omega
  have e2 : ds.length - (k + 1) = i := by omega
  have e3 : ds.length - i = k + 1 := by omega
  have e4 : ds.length - (i + 1) = k := by omega
  have e5 : ds.length - i - 1 = k := by omega
  have hs := rest_stepG (p := bitG m) (fun j hj => sizes_one hz j hj) q (i := i) (by omega)
  rw [e3, e4] at hs
  rw [e1] at h3
  have hcod : codG (dz ds) (bitG m) ds.length q i = if bitG m i = true then r % dz ds i else -1 := by unfold codG; rw [e5, h3]
  have hget : ∀ (o : List Int) (c : Int), o.length = ds.length → (∀ j, j ≠ i → o.getD j 0 = out.getD j 0) → o.getD i 0 = codG (dz ds) (bitG m) ds.length q i → ∀ j, ds.length ≤ j + (k + 1) → j < ds.length → o.getD j 0 = codG (dz ds) (bitG m) ds.length q j := fun o c ho h4 h5 j j1 j2 => by
    by_cases e : j = i
    · rw [e]; exact h5
    · rw [h4 j e]; exact h2 j (by omega) j2
  constructor
  · intro hb
    rw [if_pos hb] at hs hcod
    refine ⟨by simpa using h1, hget _ 0 (by simpa using h1) (fun j hj => ?_) ?_, ?_⟩
    · simp [List.getD, Ne.symm hj]
    · rw [hcod]; simp [List.getD, h1, show i < ds.length by omega]
    · rw [e2, hs, ← h3]
  · intro hb
    rw [if_neg (by rw [hb]; decide)] at hs hcod
    refine ⟨by simpa using h1, hget _ 0 (by simpa using h1) (fun j hj => ?_) ?_, ?_⟩
    · simp [List.getD, Ne.symm hj]
    · rw [hcod]; simp [List.getD, h1, show i < ds.length by omega]
    · rw [e2, hs, ← h3]
theorem SplitAt.done {ds : List (ByteArray × Int)} {m q : Int} {out : List Int} {r : Int} (h : SplitAt ds m q ds.length out r) : out = codesL ds m q := by
  obtain ⟨h1, h2, -⟩ := h
  refine List.ext_getElem (by rw [h1, codes_len]) fun j j1 j2 => ?_
  have h3 := h2 j (by omega) (by omega)
  have h4 := codes_get ds m q (k := j) (by omega)
  rw [List.getD, List.getElem?_eq_getElem j1] at h3
  unfold cz at h4
  rw [List.getD, List.getElem?_eq_getElem j2] at h4
  exact h3.trans h4.symm
def OwnB (B : Nat) (w : World) (l : List Int) (e : Ending) (w' : World) : Prop := (∃ v, e = .returned v ∧ IOwn w' B v l) ∧ Below B w w'
set_option maxHeartbeats 4000000 in
theorem split_any (w : World) (D : Value) (ds : List (ByteArray × Int)) (m q : Int) (h : Dims w D ds) (hn : ds.length ≤ 31) (hz : sizB ds = true) (m0 : 0 ≤ m) (m1 : m ≤ 4294967295) (q0 : 0 ≤ q) (q1 : q ≤ 18446744073709551615) :
    Calls Try.prog 28 #[D, .int .u32 m, .int .u64 q] w (OwnB w.heap.size w (codesL ds m q)) := by
  obtain ⟨i0, hi, hz0, hz1, hz2⟩ := info_parts Try.infoInt
  obtain ⟨a, cap, rfl, h1, h2, h3⟩ := h
  have HC := Lib.hid h3
  have HZ := Lib.hid (fun k (hk : k < ds.length) => siz_get hz hk)
  have HH := Lib.hid (fun w k hk => has_any w m k hk m0 m1)
  have HR := Lib.hid (fun k out r (h : SplitAt ds m q k out r) hk => h.range hz hk q0)
  have HS := Lib.hid (fun k i out r (h : SplitAt ds m q k out r) hi => h.step (i := i) hz hi)
  have HD := Lib.hid (fun out r (h : SplitAt ds m q ds.length out r) => h.done)
  have H0 := Lib.hid (SplitAt.start ds m q)
  clear h3 hz
  go_enter Try.func28, Try.ntmps28
  go_wp2_with (at_make; refine wpList_make_full _ rfl _ _ 28 rfl w.heap.size 3 i0 (.int .i64 0) 1 Try.underlying28 hi hz0 hz1 .i64 .i64 _ _ ds.length rfl rfl rfl rfl (by rw [hz2]; omega) (by unfold maxLen; omega) (Nat.le_refl _) ?_; intro w0 hown hgrow)
  have hF := Lib.hid (ifill_made rfl hown hgrow)
  clear hown hgrow
  go_wp2_with fail
  go_loopw [2, 16] (fun rv i wr => ∃ (k : Nat) (out : List Int) (r : Int), k ≤ ds.length ∧ i = .int .i64 k ∧ rv = .int .u64 r ∧ Hid (SplitAt ds m q k out r) ∧ Hid (IFill w w.heap.size ds.length out wr)) (fun _ i _ => ds.length - (intOf i).toNat)
  case atStart => exact ⟨0, _, q, Nat.zero_le _, rfl, rfl, H0, hF⟩
  case round =>
    obtain ⟨k, out, r, hk, rfl, rfl, hR, hS⟩ := hrel
    clear hF H0
    have hr := HR.out k out r hR.out hk
    by_cases hlk : k < ds.length
    · rcases HC.out with h3 | ⟨b, off, rfl, hlt, hcell⟩
      · rw [h3] at hlk; simp at hlk
      obtain ⟨i, hi2⟩ : ∃ i, k + 1 + i = ds.length := ⟨ds.length - (k + 1), by omega⟩
      have hlen := hR.out.1
      obtain ⟨f1, f2⟩ := hS.out.cells (j := i) (by omega)
      have hST := Lib.hid (HS.out k i out r hR.out hi2)
      have hB1 := hS.out.set i (-1)
      obtain ⟨f3, f4⟩ := hB1.cells (j := i) (by simp; omega)
      have hB2 := Lib.hid (fun x => hB1.set i x)
      have hB1 := Lib.hid hB1
      obtain ⟨c0, c1⟩ := hcell i (by omega)
      have c1 : (wr.setCell ⟨w.heap.size, i, none⟩ (.int .i64 (-1))).cell? ⟨b, off + i * 2 + 1, none⟩ = _ := (hB1.out.2.1.cell (p := ⟨b, off + i * 2 + 1, none⟩) hlt).trans c1
      have hz := HZ.out i (by omega)
      have HHk := Lib.hid (fun w => HH.out w i (by omega))
      have ei : (ds.length : Int) - 1 - (k : Int) = (i : Int) := by omega
      clear hcell c0 hR hS hlen
      generalize dz ds i = z at *
      by_cases hbit : bitG m i = true
      · have hST2 := Lib.hid (hST.out.1 hbit)
        rw [hbit] at HHk
        have i1 : IntKind.u64.wrap z = z := by rw [IntKind.wrap_u64]; omega
        have i2 : r.tmod z = r % z := Int.tmod_eq_emod_of_nonneg hr.1
        have i3 : r.tdiv z = r / z := Int.tdiv_eq_ediv_of_nonneg hr.1
        have hm := Int.emod_lt_of_pos r (show 0 < z by omega)
        have hm0 := Int.emod_nonneg r (show z ≠ 0 by omega)
        have hd0 : 0 ≤ r / z := Int.ediv_nonneg hr.1 (by omega)
        have hd1 : r / z ≤ r := Int.ediv_le_self _ hr.1
        generalize r % z = y at *
        generalize r / z = r2 at *
        have i4 : IntKind.u64.wrap r2 = r2 := by rw [IntKind.wrap_u64]; omega
        clear hbit hST
        go_wp2_with fail
        refine (HHk.out _).mono ?_; rintro e w1 ⟨rfl, rfl⟩
        go_wp2_with fail
        go_roundw
        case rel => exact ⟨k + 1, _, _, by omega, by go_num, rfl, hST2, Lib.hid (hB2.out _)⟩
        case measure => simp [intOf]; omega
      · have hST2 := Lib.hid (hST.out.2 (eq_false_of_ne_true hbit))
        rw [eq_false_of_ne_true hbit] at HHk
        clear hbit hST c1 hz
        go_wp2_with fail
        refine (HHk.out _).mono ?_; rintro e w1 ⟨rfl, rfl⟩
        go_wp2_with fail
        go_roundw
        case rel => exact ⟨k + 1, _, _, by omega, by go_num, rfl, hST2, hB1⟩
        case measure => simp [intOf]; omega
    · have : k = ds.length := by omega
      subst this
      have hE := HD.out out r hR.out
      subst hE
      have hW := Lib.hid hS.out
      clear hR hS
      go_wp2_with fail
      go_ret
      refine ⟨⟨_, rfl, ?_⟩, hW.out.2.1⟩
      have := hW.out.1
      rw [codes_len] at this
      rw [IOwn, codes_len]
      exact this
end Go.Proofs.Ytgbeedjcliajfaa
