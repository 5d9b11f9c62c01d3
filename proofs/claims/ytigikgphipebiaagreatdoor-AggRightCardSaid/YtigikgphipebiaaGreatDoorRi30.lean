/- Contracts that the law leans on, pruned and merged: Keyb Keyc Keyd. -/
import Derived.Test.YtigikgphipebiaaGreatDoorRi29
/- Layer 13: the program's number, has, join, split. -/
namespace Go.Proofs.YtigikgphipebiaaGreatDoor
set_option maxRecDepth 100000
open Go.RowKit
set_option linter.unusedVariables false
/-- Why a set of a schema has no keys: the schema is not right, or it is no set of its dimensions; 0: it has. -/
def numE (S : Sc) (m : Int) : Nat := if checkL S = 0 then if m ≤ fullL S.ds then 0 else 11 else 1
theorem num_yes {S : Sc} {m : Int} (h : numE S m = 0) : checkL S = 0 ∧ m ≤ fullL S.ds := by
  unfold numE at h
  split at h
  · rename_i h1
    split at h
    · rename_i h2; exact ⟨h1, h2⟩
    · cases h
  · cases h
theorem knumber_any (w : World) (D I M V : Value) (S : Sc) (m : Int) (h : Sch4 w D I M V S) (hw : SWf S) (m0 : 0 ≤ m) (m1 : m ≤ 4294967295) :
    Calls Tryz.prog 93 #[SchV D I M V, .int .u32 m] w fun e w' => e = .returned (.tuple #[.int .u64 (if numE S m = 0 then keysL S.ds m S.ds.length else 0), .int .i64 (numE S m)]) ∧ Below w.heap.size w w' := by
  have HB0 := Lib.hid (below_one w (SchO D I M V))
  have HX := Lib.hid (box_new w D I M V)
  have HK := Lib.hid (fun w1 (hb : Below w.heap.size w w1) => keys_any w1 D I M V S m (h.below hb) hw m0 m1)
  have HC := Lib.hid (fun w1 (hb : Below w.heap.size w w1) => check_any w1 D I M V S (h.below hb) hw)
  obtain ⟨⟨a, c, rfl⟩, ⟨a2, c2, rfl⟩, ⟨a3, c3, rfl⟩, a4, c4, rfl⟩ := h.slices
  clear h hw
  by_cases hx : checkL S = 0 ∧ m ≤ fullL S.ds
  · have hn : numE S m = 0 := by unfold numE; rw [if_pos hx.1, if_pos hx.2]
    rw [if_pos hx, decide_eq_true hx] at HK
    rw [hn, if_pos rfl]
    generalize keysL S.ds m S.ds.length = ky at *
    clear hx hn HC
    go_enter Tryz.func93, Tryz.ntmps93
    go_wp2_with fail
    refine (HK.out _ HB0.out).mono ?_; rintro e w1 ⟨rfl, hb⟩
    have HB1 := Lib.hid (below_then HB0.out hb)
    clear hb
    go_wp2_with fail
    exact bodyPost_ret (v := .tuple #[.int .u64 ky, .int .i64 0]) (by simp [results, Tryz.results93, go_sem]) rfl ⟨rfl, HB1.out⟩
  · rw [if_neg hx, decide_eq_false hx] at HK
    have hk : checkL S = 0 ∧ numE S m = 11 ∨ ((checkL S : Int) != 0) = true ∧ numE S m = 1 := by
      unfold numE
      by_cases h1 : checkL S = 0
      · rw [if_pos h1, if_neg (fun h2 => hx ⟨h1, h2⟩)]; exact .inl ⟨h1, rfl⟩
      · rw [if_neg h1]; exact .inr ⟨by simp; omega, rfl⟩
    clear hx
    rcases hk with ⟨h1, h2⟩ | ⟨h1, h2⟩
    · rw [h1] at HC
      rw [h2, if_neg (by decide)]
      clear h1 h2
      go_enter Tryz.func93, Tryz.ntmps93
      go_wp2_with fail
      refine (HK.out _ HB0.out).mono ?_; rintro e w1 ⟨rfl, hb⟩
      have HB1 := Lib.hid (below_then HB0.out hb)
      obtain ⟨x0, x1, x2, x3⟩ := (HX.out.below hb).reads
      clear hb
      go_wp2_with fail
      refine (HC.out _ HB1.out).mono ?_; rintro e w2 ⟨rfl, hb⟩
      have HB2 := Lib.hid (below_then HB1.out hb)
      clear hb
      go_wp2_with fail
      exact bodyPost_ret (v := .tuple #[.int .u64 0, .int .i64 11]) (by simp [results, Tryz.results93, go_sem]) rfl ⟨rfl, HB2.out⟩
    · rw [h2, if_neg (by decide)]
      generalize (checkL S : Int) = ck at *
      clear h2
      go_enter Tryz.func93, Tryz.ntmps93
      go_wp2_with fail
      refine (HK.out _ HB0.out).mono ?_; rintro e w1 ⟨rfl, hb⟩
      have HB1 := Lib.hid (below_then HB0.out hb)
      obtain ⟨x0, x1, x2, x3⟩ := (HX.out.below hb).reads
      clear hb
      go_wp2_with fail
      refine (HC.out _ HB1.out).mono ?_; rintro e w2 ⟨rfl, hb⟩
      have HB2 := Lib.hid (below_then HB1.out hb)
      clear hb
      go_wp2_with fail
      exact bodyPost_ret (v := .tuple #[.int .u64 0, .int .i64 1]) (by simp [results, Tryz.results93, go_sem]) rfl ⟨rfl, HB2.out⟩
theorem khas_any (w : World) (m : Int) (n : Nat) (hn : n ≤ 31) (m0 : 0 ≤ m) (m1 : m ≤ 4294967295) :
    Calls Tryz.prog 94 #[.int .u32 m, .int .i64 n] w fun e w' => e = .returned (.bool (bitG m n)) ∧ w = w' := by
  have hb1 : (bits .and .u32 (m / 2 ^ n) 1 == 1) = bitG m n := by
    exact and_one32 (div_range m0 m1 n).1 (div_range m0 m1 n).2
  have HE := Lib.hid hb1
  clear hb1
  go_enter Tryz.func94, Tryz.ntmps94
  go_wp2_with fail
  go_ret
  exact ⟨congrArg (fun b => Ending.returned (.bool b)) HE.out, rfl⟩
/-- The codes of a list, by number. -/
def cz (l : List Int) (k : Nat) : Int := l.getD k 0
theorem key_step {ds : List (ByteArray × Int)} {c : Nat → Int} {m : Int} (hz : sizB ds = true) (hc : InG (dz ds) c (bitG m) ds.length) : ∀ k, k ≤ ds.length → 0 ≤ keyG (dz ds) c (bitG m) k ∧ keyG (dz ds) c (bitG m) k ≤ 1099511627776 := fun k hk => by
  have h1 := keyG_range (n := k) (fun j hj => sizes_one hz j (by omega)) (fun j hj hp => hc j (by omega) hp)
  have h2 := keys_range m hz k hk
  have h3 := prod_pos hz k hk
  rw [← keys_num] at h1
  omega
set_option maxHeartbeats 4000000 in
theorem kjoin_any (w : World) (D u : Value) (ds : List (ByteArray × Int)) (m : Int) (l : List Int) (h : Dims w D ds) (hu : Ints .i64 w u l) (hn : ds.length ≤ 31) (hl : l.length = ds.length) (hz : sizB ds = true) (hc : InG (dz ds) (cz l) (bitG m) ds.length) (m0 : 0 ≤ m) (m1 : m ≤ 4294967295) :
    Calls Tryz.prog 95 #[D, .int .u32 m, u] w fun e w' => e = .returned (.int .u64 (keyG (dz ds) (cz l) (bitG m) ds.length)) ∧ Below w.heap.size w w' := by
  obtain ⟨a, cap, rfl, h1, h2, h3⟩ := h
  obtain ⟨pu, cu, rfl, hcu, -⟩ := id hu
  have HU := Lib.hid hu
  have HC := Lib.hid h3
  have HI := Lib.hid hc
  have HKn := Lib.hid (fun k => show keyG (dz ds) (cz l) (bitG m) (k + 1) = if bitG m k = true then keyG (dz ds) (cz l) (bitG m) k * dz ds k + cz l k else keyG (dz ds) (cz l) (bitG m) k from rfl)
  have HR := Lib.hid (key_step hz hc)
  have HZ := Lib.hid (fun k (hk : k < ds.length) => siz_get hz hk)
  have HH := Lib.hid (fun w k hk => khas_any w m k hk m0 m1)
  rw [hl]
  clear hu h3 hc hz
  go_enter Tryz.func95, Tryz.ntmps95
  go_wp2_with fail
  go_loopw [7, 12] (fun pv i wr => ∃ k : Nat, k ≤ ds.length ∧ i = .int .i64 k ∧ (∃ p : Int, pv = .int .u64 p ∧ 0 ≤ p ∧ p ≤ 1099511627776 ∧ Hid (p = keyG (dz ds) (cz l) (bitG m) k)) ∧ Hid (Below w.heap.size w wr)) (fun _ i _ => ds.length - (intOf i).toNat)
  case atStart => exact ⟨0, Nat.zero_le _, rfl, ⟨0, rfl, by decide, by decide, Lib.hid rfl⟩, Lib.hid (Below.refl _ _)⟩
  case round =>
    obtain ⟨k, hk, rfl, ⟨p, rfl, hp0, hp1, HE⟩, HB⟩ := hrel
    by_cases hlk : k < ds.length
    · rcases HC.out with h3 | ⟨b, off, rfl, hlt, hcell⟩
      · rw [h3] at hlk; simp at hlk
      obtain ⟨c0, c1⟩ := hcell k hlk
      have c0 : wr.cell? ⟨b, off + k * 2, none⟩ = _ := (HB.out.cell (p := ⟨b, off + k * 2, none⟩) hlt).trans c0
      have c1 : wr.cell? ⟨b, off + k * 2 + 1, none⟩ = _ := (HB.out.cell (p := ⟨b, off + k * 2 + 1, none⟩) hlt).trans c1
      obtain ⟨b2, o2, hp2, hb2, hc2⟩ := HU.out.cell (i := k) (by omega)
      subst hp2
      have hc2 := cell_later HB.out hc2
      have hc2 : wr.cell? ⟨b2, o2 + k, none⟩ = some (.int .i64 (cz l k)) := hc2
      have HKk := Lib.hid (HKn.out k)
      have hz := HZ.out k hlk
      have hr := HR.out (k + 1) (by omega)
      have hI := HI.out k hlk
      have hBs := HB.out.size
      have HB1 := Lib.hid (HB.out.alloc hBs (.cells #[.string (dn ds k), .int .i64 (dz ds k)] 73))
      have HHk := Lib.hid (fun w => HH.out w k (by omega))
      have hle : Hid (k + 1 ≤ ds.length) := Lib.hid (by omega)
      rw [← HE.out] at HKk
      generalize dn ds k = x at *
      generalize dz ds k = z at *
      generalize cz l k = y at *
      clear hcell
      by_cases hbit : bitG m k = true
      · obtain ⟨y0, y1⟩ := hI hbit
        rw [hbit] at HHk
        rw [if_pos hbit] at HKk
        have hpz : 0 ≤ p * z := Int.mul_nonneg hp0 (by omega)
        rw [HKk.out] at hr
        have i1 : IntKind.u64.wrap z = z := by rw [IntKind.wrap_u64]; omega
        have i2 : IntKind.u64.wrap (p * z) = p * z := by rw [IntKind.wrap_u64]; omega
        have i3 : IntKind.u64.wrap y = y := by rw [IntKind.wrap_u64]; omega
        have i4 : IntKind.u64.wrap (p * z + y) = p * z + y := by rw [IntKind.wrap_u64]; omega
        have HE3 := Lib.hid hr
        have hb3 := HB.out.size
        have hd2 := cell_later (below_one wr (.cells #[.string x, .int .i64 z] 73)) hc2
        clear hr hz hpz hI hbit y0 y1
        go_wp2_with fail
        refine (HHk.out _).mono ?_; rintro e w1 ⟨rfl, rfl⟩
        go_upto_region 6 with fail
        go_quiet (fail)
        have HB2 := Lib.hid (below_drewN HB1.out nq)
        go_wp2
        go_roundw
        case rel => exact ⟨k + 1, hle.out, by go_num, ⟨p * z + y, rfl, HE3.out.1, HE3.out.2, Lib.hid HKk.out.symm⟩, HB2⟩
        case measure => simp [intOf]; omega
      · rw [eq_false_of_ne_true hbit] at HHk
        rw [if_neg hbit] at HKk
        clear hr hz hI hbit hc2
        go_wp2_with fail
        refine (HHk.out _).mono ?_; rintro e w1 ⟨rfl, rfl⟩
        go_wp2_with fail
        go_roundw
        case rel => exact ⟨k + 1, hle.out, by go_num, ⟨p, rfl, hp0, hp1, Lib.hid HKk.out.symm⟩, HB1⟩
        case measure => simp [intOf]; omega
    · have : k = ds.length := by omega
      subst this
      have HE2 := Lib.hid HE.out
      clear HE
      go_wp2_with fail
      go_ret
      rw [HE2.out]
      exact ⟨rfl, HB.out⟩
end Go.Proofs.YtigikgphipebiaaGreatDoor
/- Layer 13: the program's split, Codes, Code, Down, Of. -/
namespace Go.Proofs.YtigikgphipebiaaGreatDoor
set_option maxRecDepth 100000
open Go.RowKit
set_option linter.unusedVariables false
/-- The codes of a key. -/
def codesL (ds : List (ByteArray × Int)) (m q : Int) : List Int := (List.range ds.length).map (codG (dz ds) (bitG m) ds.length q)
theorem codes_len (ds : List (ByteArray × Int)) (m q : Int) : (codesL ds m q).length = ds.length := by simp [codesL]
theorem codes_get (ds : List (ByteArray × Int)) (m q : Int) {k : Nat} (hk : k < ds.length) : cz (codesL ds m q) k = codG (dz ds) (bitG m) ds.length q k := by
  simp [cz, codesL, List.getD, hk]
/-- A row of the call's own that is filled, and all that was. -/
def IFill (w : World) (g cap : Nat) (out : List Int) (wr : World) : Prop := wr.ownsRow w.heap.size 3 1 (.slice (some ⟨g, 0, none⟩) out.length cap) out.length (out.map (Value.int .i64)) ∧ Below w.heap.size w wr ∧ w.heap.size ≤ g ∧ g < wr.heap.size
theorem IFill.set {w wr : World} {g cap : Nat} {out : List Int} (h : IFill w g cap out wr) (j : Nat) (x : Int) : IFill w g cap (out.set j x) (wr.setCell ⟨g, j, none⟩ (.int .i64 x)) := by
  refine ⟨?_, h.2.1.setCell h.2.2.1 _, h.2.2.1, by simpa using h.2.2.2⟩
  have := (World.ownsRow.stored h.1 j (.int .i64 x)).1
  simpa [List.map_set] using this
theorem IFill.cells {w wr : World} {g cap : Nat} {out : List Int} (h : IFill w g cap out wr) {j : Nat} (hj : j < out.length) : wr.cell? ⟨g, j, none⟩ = some (.int .i64 (out.getD j 0)) ∧ wr.frozen? ⟨g, j, none⟩ = false := by
  have h1 := h.1.1
  rw [List.length_map, Nat.mul_one] at h1
  refine ⟨?_, World.ownsRow.frozenAt h.1 j⟩
  rw [World.ownsRow.cellAt h.1 j (by omega), List.getElem?_map, List.getElem?_eq_getElem hj, List.getD, List.getElem?_eq_getElem hj]
  rfl
/-- After k steps: the last k codes stand, and what is left of the key. -/
def SplitAt (ds : List (ByteArray × Int)) (m q : Int) (k : Nat) (out : List Int) (r : Int) : Prop :=
  out.length = ds.length ∧ (∀ j, ds.length ≤ j + k → j < ds.length → out.getD j 0 = codG (dz ds) (bitG m) ds.length q j) ∧ r = q / tailG (dz ds) (bitG m) (ds.length - k) k
theorem SplitAt.start (ds : List (ByteArray × Int)) (m q : Int) : SplitAt ds m q 0 (List.replicate ds.length 0) q := ⟨by simp, fun j h1 h2 => by omega, by simp [tailG]⟩
theorem SplitAt.range {ds : List (ByteArray × Int)} {m q : Int} {k : Nat} {out : List Int} {r : Int} (h : SplitAt ds m q k out r) (hz : sizB ds = true) (hk : k ≤ ds.length) (q0 : 0 ≤ q) : 0 ≤ r ∧ r ≤ q := by
  obtain ⟨-, -, rfl⟩ := h
  have := tailG_pos (p := bitG m) (i := ds.length - k) (fun j hj => sizes_one hz j hj) k (by omega)
  refine ⟨Int.ediv_nonneg q0 (by omega), Int.ediv_le_self _ q0⟩
theorem SplitAt.step {ds : List (ByteArray × Int)} {m q : Int} {k i : Nat} {out : List Int} {r : Int} (h : SplitAt ds m q k out r) (hz : sizB ds = true) (hi : k + 1 + i = ds.length) :
    (bitG m i = true → SplitAt ds m q (k + 1) ((out.set i (-1)).set i (r % dz ds i)) (r / dz ds i)) ∧ (bitG m i = false → SplitAt ds m q (k + 1) (out.set i (-1)) r) := by
  obtain ⟨h1, h2, h3⟩ := h
  have e1 : ds.length - k = i + 1 := by omega
  have e2 : ds.length - (k + 1) = i := by omega
  have e3 : ds.length - i = k + 1 := by omega
  have e4 : ds.length - (i + 1) = k := by omega
  have e5 : ds.length - i - 1 = k := by omega
  have hs := rest_stepG (p := bitG m) (fun j hj => sizes_one hz j hj) q (i := i) (by omega)
  rw [e3, e4] at hs
  rw [e1] at h3
  have hcod : codG (dz ds) (bitG m) ds.length q i = if bitG m i = true then r % dz ds i else -1 := by unfold codG; rw [e5, h3]
  have hget : ∀ (o : List Int) (c : Int), o.length = ds.length → (∀ j, j ≠ i → o.getD j 0 = out.getD j 0) → o.getD i 0 = codG (dz ds) (bitG m) ds.length q i → ∀ j, ds.length ≤ j + (k + 1) → j < ds.length → o.getD j 0 = codG (dz ds) (bitG m) ds.length q j := fun o c ho h4 h5 j j1 j2 => by
    by_cases e : j = i
    · rw [e]; exact h5
    · rw [h4 j e]; exact h2 j (by omega) j2
  constructor
  · intro hb
    rw [if_pos hb] at hs hcod
    refine ⟨by simpa using h1, hget _ 0 (by simpa using h1) (fun j hj => ?_) ?_, ?_⟩
    · simp [List.getD, Ne.symm hj]
    · rw [hcod]; simp [List.getD, h1, show i < ds.length by omega]
    · rw [e2, hs, ← h3]
  · intro hb
    rw [if_neg (by rw [hb]; decide)] at hs hcod
    refine ⟨by simpa using h1, hget _ 0 (by simpa using h1) (fun j hj => ?_) ?_, ?_⟩
    · simp [List.getD, Ne.symm hj]
    · rw [hcod]; simp [List.getD, h1, show i < ds.length by omega]
    · rw [e2, hs, ← h3]
theorem SplitAt.done {ds : List (ByteArray × Int)} {m q : Int} {out : List Int} {r : Int} (h : SplitAt ds m q ds.length out r) : out = codesL ds m q := by
  obtain ⟨h1, h2, -⟩ := h
  refine List.ext_getElem (by rw [h1, codes_len]) fun j j1 j2 => ?_
  have h3 := h2 j (by omega) (by omega)
  have h4 := codes_get ds m q (k := j) (by omega)
  rw [List.getD, List.getElem?_eq_getElem j1] at h3
  unfold cz at h4
  rw [List.getD, List.getElem?_eq_getElem j2] at h4
  exact h3.trans h4.symm
end Go.Proofs.YtigikgphipebiaaGreatDoor
/- Layer 13: the program's Codes, Code, Down, Of. -/
namespace Go.Proofs.YtigikgphipebiaaGreatDoor
set_option maxRecDepth 100000
open Go.RowKit
set_option linter.unusedVariables false
theorem sc_few {S : Sc} (h : checkL S = 0) : S.ds.length ≤ 6 ∧ sizB S.ds = true := ⟨(cnt_iff.1 (check_cnt h).1).2.1, (check_cnt h).2.1⟩
end Go.Proofs.YtigikgphipebiaaGreatDoor
