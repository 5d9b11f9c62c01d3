/- Contracts that the law leans on, pruned and merged: Keyb Keyc Keyd Keye Keyf. -/
import Derived.Test.YtigikgphipebiaaGreatDoorOn34
import Derived.Test.YtigikgphipebiaaGreatDoorOn35
/- Layer 13: the program's number, has, join, split. -/
namespace Go.Proofs.YtigikgphipebiaaGreatDoor
set_option maxRecDepth 100000
open Go.RowKit
set_option linter.unusedVariables false
/-- Why a set of a schema has no keys: the schema is not right, or it is no set of its dimensions; 0: it has. -/
def numE (S : Sc) (m : Int) : Nat := if checkL S = 0 then if m ≤ fullL S.ds then 0 else 11 else 1
theorem num_yes {S : Sc} {m : Int} (h : numE S m = 0) : checkL S = 0 ∧ m ≤ fullL S.ds := by
  unfold numE at h
  split at h
  · rename_i h1
    split at h
    · rename_i h2; exact ⟨h1, h2⟩
    · cases h
  · cases h
theorem knumber_any (w : World) (D I M V : Value) (S : Sc) (m : Int) (h : Sch4 w D I M V S) (hw : SWf S) (m0 : 0 ≤ m) (m1 : m ≤ 4294967295) :
    Calls Tryz.prog 93 #[SchV D I M V, .int .u32 m] w fun e w' => e = .returned (.tuple #[.int .u64 (if numE S m = 0 then keysL S.ds m S.ds.length else 0), .int .i64 (numE S m)]) ∧ Below w.heap.size w w' := by
  have HB0 := Lib.hid (below_one w (SchO D I M V))
  have HX := Lib.hid (box_new w D I M V)
  have HK := Lib.hid (fun w1 (hb : Below w.heap.size w w1) => keys_any w1 D I M V S m (h.below hb) hw m0 m1)
  have HC := Lib.hid (fun w1 (hb : Below w.heap.size w w1) => check_any w1 D I M V S (h.below hb) hw)
  obtain ⟨⟨a, c, rfl⟩, ⟨a2, c2, rfl⟩, ⟨a3, c3, rfl⟩, a4, c4, rfl⟩ := h.slices
  clear h hw
  by_cases hx : checkL S = 0 ∧ m ≤ fullL S.ds
  · have hn : numE S m = 0 := by unfold numE; rw [if_pos hx.1, if_pos hx.2]
    rw [if_pos hx, decide_eq_true hx] at HK
    rw [hn, if_pos rfl]
    generalize keysL S.ds m S.ds.length = ky at *
    clear hx hn HC
    go_enter Tryz.func93, Tryz.ntmps93
    go_wp2_with fail
    refine (HK.out _ HB0.out).mono ?_; rintro e w1 ⟨rfl, hb⟩
    have HB1 := Lib.hid (below_then HB0.out hb)
    clear hb
    go_wp2_with fail
    exact bodyPost_ret (v := .tuple #[.int .u64 ky, .int .i64 0]) (by simp [results, Tryz.results93, go_sem]) rfl ⟨rfl, HB1.out⟩
  · rw [if_neg hx, decide_eq_false hx] at HK
    have hk : checkL S = 0 ∧ numE S m = 11 ∨ ((checkL S : Int) != 0) = true ∧ numE S m = 1 := by
      unfold numE
      by_cases h1 : checkL S = 0
      · rw [if_pos h1, if_neg (fun h2 => hx ⟨h1, h2⟩)]; exact .inl ⟨h1, rfl⟩
      · rw [if_neg h1]; exact .inr ⟨by simp; omega, rfl⟩
    clear hx
    rcases hk with ⟨h1, h2⟩ | ⟨h1, h2⟩
    · rw [h1] at HC
      rw [h2, if_neg (by decide)]
      clear h1 h2
      go_enter Tryz.func93, Tryz.ntmps93
      go_wp2_with fail
      refine (HK.out _ HB0.out).mono ?_; rintro e w1 ⟨rfl, hb⟩
      have HB1 := Lib.hid (below_then HB0.out hb)
      obtain ⟨x0, x1, x2, x3⟩ := (HX.out.below hb).reads
      clear hb
      go_wp2_with fail
      refine (HC.out _ HB1.out).mono ?_; rintro e w2 ⟨rfl, hb⟩
      have HB2 := Lib.hid (below_then HB1.out hb)
      clear hb
      go_wp2_with fail
      exact bodyPost_ret (v := .tuple #[.int .u64 0, .int .i64 11]) (by simp [results, Tryz.results93, go_sem]) rfl ⟨rfl, HB2.out⟩
    · rw [h2, if_neg (by decide)]
      generalize (checkL S : Int) = ck at *
      clear h2
      go_enter Tryz.func93, Tryz.ntmps93
      go_wp2_with fail
      refine (HK.out _ HB0.out).mono ?_; rintro e w1 ⟨rfl, hb⟩
      have HB1 := Lib.hid (below_then HB0.out hb)
      obtain ⟨x0, x1, x2, x3⟩ := (HX.out.below hb).reads
      clear hb
      go_wp2_with fail
      refine (HC.out _ HB1.out).mono ?_; rintro e w2 ⟨rfl, hb⟩
      have HB2 := Lib.hid (below_then HB1.out hb)
      clear hb
      go_wp2_with fail
      exact bodyPost_ret (v := .tuple #[.int .u64 0, .int .i64 1]) (by simp [results, Tryz.results93, go_sem]) rfl ⟨rfl, HB2.out⟩
theorem khas_any (w : World) (m : Int) (n : Nat) (hn : n ≤ 31) (m0 : 0 ≤ m) (m1 : m ≤ 4294967295) :
    Calls Tryz.prog 94 #[.int .u32 m, .int .i64 n] w fun e w' => e = .returned (.bool (bitG m n)) ∧ w = w' := by
  have hb1 : (bits .and .u32 (m / 2 ^ n) 1 == 1) = bitG m n := by
    exact and_one32 (div_range m0 m1 n).1 (div_range m0 m1 n).2
  have HE := Lib.hid hb1
  clear hb1
  go_enter Tryz.func94, Tryz.ntmps94
  go_wp2_with fail
  go_ret
  exact ⟨congrArg (fun b => Ending.returned (.bool b)) HE.out, rfl⟩
/-- The codes of a list, by number. -/
def cz (l : List Int) (k : Nat) : Int := l.getD k 0
theorem key_step {ds : List (ByteArray × Int)} {c : Nat → Int} {m : Int} (hz : sizB ds = true) (hc : InG (dz ds) c (bitG m) ds.length) : ∀ k, k ≤ ds.length → 0 ≤ keyG (dz ds) c (bitG m) k ∧ keyG (dz ds) c (bitG m) k ≤ 1099511627776 := fun k hk => by
  have h1 := keyG_range (n := k) (fun j hj => sizes_one hz j (by omega)) (fun j hj hp => hc j (by omega) hp)
  have h2 := keys_range m hz k hk
  have h3 := prod_pos hz k hk
  rw [← keys_num] at h1
  omega
set_option maxHeartbeats 4000000 in
theorem kjoin_any (w : World) (D u : Value) (ds : List (ByteArray × Int)) (m : Int) (l : List Int) (h : Dims w D ds) (hu : Ints .i64 w u l) (hn : ds.length ≤ 31) (hl : l.length = ds.length) (hz : sizB ds = true) (hc : InG (dz ds) (cz l) (bitG m) ds.length) (m0 : 0 ≤ m) (m1 : m ≤ 4294967295) :
    Calls Tryz.prog 95 #[D, .int .u32 m, u] w fun e w' => e = .returned (.int .u64 (keyG (dz ds) (cz l) (bitG m) ds.length)) ∧ Below w.heap.size w w' := by
  obtain ⟨a, cap, rfl, h1, h2, h3⟩ := h
  obtain ⟨pu, cu, rfl, hcu, -⟩ := id hu
  have HU := Lib.hid hu
  have HC := Lib.hid h3
  have HI := Lib.hid hc
  have HKn := Lib.hid (fun k => show keyG (dz ds) (cz l) (bitG m) (k + 1) = if bitG m k = true then keyG (dz ds) (cz l) (bitG m) k * dz ds k + cz l k else keyG (dz ds) (cz l) (bitG m) k from rfl)
  have HR := Lib.hid (key_step hz hc)
  have HZ := Lib.hid (fun k (hk : k < ds.length) => siz_get hz hk)
  have HH := Lib.hid (fun w k hk => khas_any w m k hk m0 m1)
  rw [hl]
  clear hu h3 hc hz
  go_enter Tryz.func95, Tryz.ntmps95
  go_wp2_with fail
  go_loopw [7, 12] (fun pv i wr => ∃ k : Nat, k ≤ ds.length ∧ i = .int .i64 k ∧ (∃ p : Int, pv = .int .u64 p ∧ 0 ≤ p ∧ p ≤ 1099511627776 ∧ Hid (p = keyG (dz ds) (cz l) (bitG m) k)) ∧ Hid (Below w.heap.size w wr)) (fun _ i _ => ds.length - (intOf i).toNat)
  case atStart => exact ⟨0, Nat.zero_le _, rfl, ⟨0, rfl, by decide, by decide, Lib.hid rfl⟩, Lib.hid (Below.refl _ _)⟩
  case round =>
    obtain ⟨k, hk, rfl, ⟨p, rfl, hp0, hp1, HE⟩, HB⟩ := hrel
    by_cases hlk : k < ds.length
    · rcases HC.out with h3 | ⟨b, off, rfl, hlt, hcell⟩
      · rw [h3] at hlk; simp at hlk
      obtain ⟨c0, c1⟩ := hcell k hlk
      have c0 : wr.cell? ⟨b, off + k * 2, none⟩ = _ := (HB.out.cell (p := ⟨b, off + k * 2, none⟩) hlt).trans c0
      have c1 : wr.cell? ⟨b, off + k * 2 + 1, none⟩ = _ := (HB.out.cell (p := ⟨b, off + k * 2 + 1, none⟩) hlt).trans c1
      obtain ⟨b2, o2, hp2, hb2, hc2⟩ := HU.out.cell (i := k) (by omega)
      subst hp2
      have hc2 := cell_later HB.out hc2
      have hc2 : wr.cell? ⟨b2, o2 + k, none⟩ = some (.int .i64 (cz l k)) := hc2
      have HKk := Lib.hid (HKn.out k)
      have hz := HZ.out k hlk
      have hr := HR.out (k + 1) (by omega)
      have hI := HI.out k hlk
      have hBs := HB.out.size
      have HB1 := Lib.hid (HB.out.alloc hBs (.cells #[.string (dn ds k), .int .i64 (dz ds k)] 73))
      have HHk := Lib.hid (fun w => HH.out w k (by omega))
      have hle : Hid (k + 1 ≤ ds.length) := Lib.hid (by omega)
      rw [← HE.out] at HKk
      generalize dn ds k = x at *
      generalize dz ds k = z at *
      generalize cz l k = y at *
      clear hcell
      by_cases hbit : bitG m k = true
      · obtain ⟨y0, y1⟩ := hI hbit
        rw [hbit] at HHk
        rw [if_pos hbit] at HKk
        have hpz : 0 ≤ p * z := Int.mul_nonneg hp0 (by omega)
        rw [HKk.out] at hr
        have i1 : IntKind.u64.wrap z = z := by rw [IntKind.wrap_u64]; omega
        have i2 : IntKind.u64.wrap (p * z) = p * z := by rw [IntKind.wrap_u64]; omega
        have i3 : IntKind.u64.wrap y = y := by rw [IntKind.wrap_u64]; omega
        have i4 : IntKind.u64.wrap (p * z + y) = p * z + y := by rw [IntKind.wrap_u64]; omega
        have HE3 := Lib.hid hr
        have hb3 := HB.out.size
        have hd2 := cell_later (below_one wr (.cells #[.string x, .int .i64 z] 73)) hc2
        clear hr hz hpz hI hbit y0 y1
        go_wp2_with fail
        refine (HHk.out _).mono ?_; rintro e w1 ⟨rfl, rfl⟩
        go_upto_region 6 with fail
        go_quiet (fail)
        have HB2 := Lib.hid (below_drewN HB1.out nq)
        go_wp2
        go_roundw
        case rel => exact ⟨k + 1, hle.out, by go_num, ⟨p * z + y, rfl, HE3.out.1, HE3.out.2, Lib.hid HKk.out.symm⟩, HB2⟩
        case measure => simp [intOf]; omega
      · rw [eq_false_of_ne_true hbit] at HHk
        rw [if_neg hbit] at HKk
        clear hr hz hI hbit hc2
        go_wp2_with fail
        refine (HHk.out _).mono ?_; rintro e w1 ⟨rfl, rfl⟩
        go_wp2_with fail
        go_roundw
        case rel => exact ⟨k + 1, hle.out, by go_num, ⟨p, rfl, hp0, hp1, Lib.hid HKk.out.symm⟩, HB1⟩
        case measure => simp [intOf]; omega
    · have : k = ds.length := by omega
      subst this
      have HE2 := Lib.hid HE.out
      clear HE
      go_wp2_with fail
      go_ret
      rw [HE2.out]
      exact ⟨rfl, HB.out⟩
end Go.Proofs.YtigikgphipebiaaGreatDoor
/- Layer 13: the program's split, Codes, Code, Down, Of. -/
namespace Go.Proofs.YtigikgphipebiaaGreatDoor
set_option maxRecDepth 100000
open Go.RowKit
set_option linter.unusedVariables false
/-- The codes of a key. -/
def codesL (ds : List (ByteArray × Int)) (m q : Int) : List Int := (List.range ds.length).map (codG (dz ds) (bitG m) ds.length q)
theorem codes_len (ds : List (ByteArray × Int)) (m q : Int) : (codesL ds m q).length = ds.length := by simp [codesL]
theorem codes_get (ds : List (ByteArray × Int)) (m q : Int) {k : Nat} (hk : k < ds.length) : cz (codesL ds m q) k = codG (dz ds) (bitG m) ds.length q k := by
  simp [cz, codesL, List.getD, hk]
/-- A row of the call's own that is filled, and all that was. -/
def IFill (w : World) (g cap : Nat) (out : List Int) (wr : World) : Prop := wr.ownsRow w.heap.size 3 1 (.slice (some ⟨g, 0, none⟩) out.length cap) out.length (out.map (Value.int .i64)) ∧ Below w.heap.size w wr ∧ w.heap.size ≤ g ∧ g < wr.heap.size
theorem IFill.set {w wr : World} {g cap : Nat} {out : List Int} (h : IFill w g cap out wr) (j : Nat) (x : Int) : IFill w g cap (out.set j x) (wr.setCell ⟨g, j, none⟩ (.int .i64 x)) := by
  refine ⟨?_, h.2.1.setCell h.2.2.1 _, h.2.2.1, by simpa using h.2.2.2⟩
  have := (World.ownsRow.stored h.1 j (.int .i64 x)).1
  simpa [List.map_set] using this
theorem IFill.cells {w wr : World} {g cap : Nat} {out : List Int} (h : IFill w g cap out wr) {j : Nat} (hj : j < out.length) : wr.cell? ⟨g, j, none⟩ = some (.int .i64 (out.getD j 0)) ∧ wr.frozen? ⟨g, j, none⟩ = false := by
  have h1 := h.1.1
  rw [List.length_map, Nat.mul_one] at h1
  refine ⟨?_, World.ownsRow.frozenAt h.1 j⟩
  rw [World.ownsRow.cellAt h.1 j (by omega), List.getElem?_map, List.getElem?_eq_getElem hj, List.getD, List.getElem?_eq_getElem hj]
  rfl
/-- After k steps: the last k codes stand, and what is left of the key. -/
def SplitAt (ds : List (ByteArray × Int)) (m q : Int) (k : Nat) (out : List Int) (r : Int) : Prop :=
  out.length = ds.length ∧ (∀ j, ds.length ≤ j + k → j < ds.length → out.getD j 0 = codG (dz ds) (bitG m) ds.length q j) ∧ r = q / tailG (dz ds) (bitG m) (ds.length - k) k
theorem SplitAt.start (ds : List (ByteArray × Int)) (m q : Int) : SplitAt ds m q 0 (List.replicate ds.length 0) q := ⟨by simp, fun j h1 h2 => by omega, by simp [tailG]⟩
theorem SplitAt.range {ds : List (ByteArray × Int)} {m q : Int} {k : Nat} {out : List Int} {r : Int} (h : SplitAt ds m q k out r) (hz : sizB ds = true) (hk : k ≤ ds.length) (q0 : 0 ≤ q) : 0 ≤ r ∧ r ≤ q := by
  obtain ⟨-, -, rfl⟩ := h
  have := tailG_pos (p := bitG m) (i := ds.length - k) (fun j hj => sizes_one hz j hj) k (by omega)
  refine ⟨Int.ediv_nonneg q0 (by omega), Int.ediv_le_self _ q0⟩
theorem SplitAt.step {ds : List (ByteArray × Int)} {m q : Int} {k i : Nat} {out : List Int} {r : Int} (h : SplitAt ds m q k out r) (hz : sizB ds = true) (hi : k + 1 + i = ds.length) :
    (bitG m i = true → SplitAt ds m q (k + 1) ((out.set i (-1)).set i (r % dz ds i)) (r / dz ds i)) ∧ (bitG m i = false → SplitAt ds m q (k + 1) (out.set i (-1)) r) := by
  obtain ⟨h1, h2, h3⟩ := h
  have e1 : ds.length - k = i + 1 := by omega
  have e2 : ds.length - (k + 1) = i := by omega
  have e3 : ds.length - i = k + 1 := by omega
  have e4 : ds.length - (i + 1) = k := by omega
  have e5 : ds.length - i - 1 = k := by omega
  have hs := rest_stepG (p := bitG m) (fun j hj => sizes_one hz j hj) q (i := i) (by omega)
  rw [e3, e4] at hs
  rw [e1] at h3
  have hcod : codG (dz ds) (bitG m) ds.length q i = if bitG m i = true then r % dz ds i else -1 := by unfold codG; rw [e5, h3]
  have hget : ∀ (o : List Int) (c : Int), o.length = ds.length → (∀ j, j ≠ i → o.getD j 0 = out.getD j 0) → o.getD i 0 = codG (dz ds) (bitG m) ds.length q i → ∀ j, ds.length ≤ j + (k + 1) → j < ds.length → o.getD j 0 = codG (dz ds) (bitG m) ds.length q j := fun o c ho h4 h5 j j1 j2 => by
    by_cases e : j = i
    · rw [e]; exact h5
    · rw [h4 j e]; exact h2 j (by omega) j2
  constructor
  · intro hb
    rw [if_pos hb] at hs hcod
    refine ⟨by simpa using h1, hget _ 0 (by simpa using h1) (fun j hj => ?_) ?_, ?_⟩
    · simp [List.getD, Ne.symm hj]
    · rw [hcod]; simp [List.getD, h1, show i < ds.length by omega]
    · rw [e2, hs, ← h3]
  · intro hb
    rw [if_neg (by rw [hb]; decide)] at hs hcod
    refine ⟨by simpa using h1, hget _ 0 (by simpa using h1) (fun j hj => ?_) ?_, ?_⟩
    · simp [List.getD, Ne.symm hj]
    · rw [hcod]; simp [List.getD, h1, show i < ds.length by omega]
    · rw [e2, hs, ← h3]
theorem SplitAt.done {ds : List (ByteArray × Int)} {m q : Int} {out : List Int} {r : Int} (h : SplitAt ds m q ds.length out r) : out = codesL ds m q := by
  obtain ⟨h1, h2, -⟩ := h
  refine List.ext_getElem (by rw [h1, codes_len]) fun j j1 j2 => ?_
  have h3 := h2 j (by omega) (by omega)
  have h4 := codes_get ds m q (k := j) (by omega)
  rw [List.getD, List.getElem?_eq_getElem j1] at h3
  unfold cz at h4
  rw [List.getD, List.getElem?_eq_getElem j2] at h4
  exact h3.trans h4.symm
end Go.Proofs.YtigikgphipebiaaGreatDoor
/- Layer 13: the program's Codes, Code, Down, Of. -/
namespace Go.Proofs.YtigikgphipebiaaGreatDoor
set_option maxRecDepth 100000
open Go.RowKit
set_option linter.unusedVariables false
theorem sc_few {S : Sc} (h : checkL S = 0) : S.ds.length ≤ 6 ∧ sizB S.ds = true := ⟨(cnt_iff.1 (check_cnt h).1).2.1, (check_cnt h).2.1⟩
end Go.Proofs.YtigikgphipebiaaGreatDoor
/- Layer 13: the program's Down, Of. -/
namespace Go.Proofs.YtigikgphipebiaaGreatDoor
set_option maxRecDepth 100000
open Go.RowKit
set_option linter.unusedVariables false
/-- The code of a dimension in the set is in its range. -/
def rngAt (ds : List (ByteArray × Int)) (m : Int) (l : List Int) (k : Nat) : Bool := !bitG m k || (decide (0 ≤ cz l k) && decide (cz l k < dz ds k))
def rngB (ds : List (ByteArray × Int)) (m : Int) (l : List Int) : Bool := (List.range ds.length).all (rngAt ds m l)
theorem rng_in {ds : List (ByteArray × Int)} {m : Int} {l : List Int} (h : ∀ k, k < ds.length → rngAt ds m l k = true) : InG (dz ds) (cz l) (bitG m) ds.length := fun k hk hp => by
  have := h k hk
  unfold rngAt at this
  rw [hp] at this
  simpa using this
theorem rng_good {ds : List (ByteArray × Int)} {m : Int} {l : List Int} (h : ∀ k, k < ds.length → rngAt ds m l k = true) : rngB ds m l = true := List.all_eq_true.2 fun x hx => h x (by simpa using hx)
theorem rng_bad {ds : List (ByteArray × Int)} {m : Int} {l : List Int} {k : Nat} (hk : k < ds.length) (h : rngAt ds m l k = false) : rngB ds m l = false := List.all_eq_false.2 ⟨k, by simpa using hk, by simp [h]⟩
theorem rng_get {ds : List (ByteArray × Int)} {m : Int} {l : List Int} (h : rngB ds m l = true) : ∀ k, k < ds.length → rngAt ds m l k = true := fun k hk => List.all_eq_true.1 h k (by simpa using hk)
/-- Why codes have no key: 0 where they have. -/
def ofE (S : Sc) (m : Int) (l : List Int) : Nat := if numE S m = 0 then if l.length = S.ds.length then if rngB S.ds m l = true then 0 else 2 else 3 else numE S m
def ofL (S : Sc) (m : Int) (l : List Int) : Int := if ofE S m l = 0 then keyG (dz S.ds) (cz l) (bitG m) S.ds.length else 0
theorem of_yes {S : Sc} {m : Int} {l : List Int} (h : ofE S m l = 0) : numE S m = 0 ∧ l.length = S.ds.length ∧ InG (dz S.ds) (cz l) (bitG m) S.ds.length := by
  unfold ofE at h
  split at h
  · rename_i h1
    split at h
    · rename_i h2
      split at h
      · rename_i h3; exact ⟨h1, h2, rng_in (rng_get h3)⟩
      · cases h
    · cases h
  · rename_i h1; exact absurd h h1
end Go.Proofs.YtigikgphipebiaaGreatDoor
/- Layer 13: the program's Of. -/
namespace Go.Proofs.YtigikgphipebiaaGreatDoor
set_option maxRecDepth 100000
open Go.RowKit
set_option linter.unusedVariables false
set_option maxHeartbeats 8000000 in
theorem kof_any (w : World) (D I M V u : Value) (S : Sc) (m : Int) (l : List Int) (h : Sch4 w D I M V S) (hw : SWf S) (hu : Ints .i64 w u l) (m0 : 0 ≤ m) (m1 : m ≤ 4294967295) :
    Calls Tryz.prog 34 #[SchV D I M V, .int .u32 m, u] w fun e w' => e = .returned (.tuple #[.int .u64 (ofL S m l), .int .i64 (ofE S m l)]) ∧ Below w.heap.size w w' := by
  have HB0 := Lib.hid (below_one w (SchO D I M V))
  have HX := Lib.hid (box_new w D I M V)
  have HN := Lib.hid (fun w1 (hb : Below w.heap.size w w1) => knumber_any w1 D I M V S m (h.below hb) hw m0 m1)
  obtain ⟨pu, cu, rfl, hcu, -⟩ := id hu
  have HU := Lib.hid hu
  by_cases hn : numE S m = 0
  · rw [hn, if_pos rfl] at HN
    have hy := sc_few (num_yes hn).1
    have HH := Lib.hid (fun w k hk => khas_any w m k hk m0 m1)
    have hd := h.d
    have HD := Lib.hid h.d
    obtain ⟨⟨p, c, rfl⟩, ⟨p2, c2, rfl⟩, ⟨p3, c3, rfl⟩, p4, c4, rfl⟩ := h.slices
    by_cases hl : l.length = S.ds.length
    · have HJ := Lib.hid (fun w1 (hb : Below w.heap.size w w1) (hc : InG (dz S.ds) (cz l) (bitG m) S.ds.length) => kjoin_any w1 _ _ S.ds m l (HD.out.below hb) (hu.below hb) (by omega) hl hy.2 hc m0 m1)
      have HE2 := Lib.hid (fun (q : rngB S.ds m l = false) => show ofE S m l = 2 ∧ ofL S m l = 0 by
        have hE : ofE S m l = 2 := by unfold ofE; rw [if_pos hn, if_pos hl, q]; rfl
        exact ⟨hE, by unfold ofL; rw [hE]; rfl⟩)
      have HE0 := Lib.hid (fun (q : rngB S.ds m l = true) => show ofE S m l = 0 ∧ ofL S m l = keyG (dz S.ds) (cz l) (bitG m) S.ds.length by
        have hE : ofE S m l = 0 := by unfold ofE; rw [if_pos hn, if_pos hl, if_pos q]
        exact ⟨hE, by unfold ofL; rw [if_pos hE]⟩)
      obtain ⟨a', cap', e', h1, h2, h3⟩ := hd
      obtain ⟨rfl, rfl⟩ : p = a' ∧ c = cap' := by injection e' with e1 e2 e3; exact ⟨e1, e3⟩
      have HC := Lib.hid h3
      have HG := Lib.hid (@rng_good S.ds m l)
      have HI := Lib.hid (@rng_in S.ds m l)
      have HBd := Lib.hid (fun k => @rng_bad S.ds m l k)
      have HAt := Lib.hid (fun k => show rngAt S.ds m l k = (!bitG m k || (decide (0 ≤ cz l k) && decide (cz l k < dz S.ds k))) from rfl)
      rw [hl] at HJ
      rw [hl] at HU
      rw [hl] at hcu
      rw [hl]
      generalize keysL S.ds m S.ds.length = ky at *
      generalize keyG (dz S.ds) (cz l) (bitG m) S.ds.length = ans at *
      generalize ofE S m l = oe at *
      generalize ofL S m l = ol at *
      generalize rngB S.ds m l = rb at *
      have hn6 := hy.1
      clear hn h hw e' h3 hy hu
      go_enter Tryz.func34, Tryz.ntmps34
      go_wp2_with fail
      refine (HN.out _ HB0.out).mono ?_; rintro e w1 ⟨rfl, hb⟩
      have HB1 := Lib.hid (below_then HB0.out hb)
      have HX1 := Lib.hid (HX.out.below hb)
      obtain ⟨x0, x1, x2, x3⟩ := (HX.out.below hb).reads
      clear hb
      go_wp2_with fail
      go_loopw [30] (fun i wr => ∃ k : Nat, k ≤ S.ds.length ∧ i = .int .i64 k ∧ Hid (Below w.heap.size w wr ∧ Box wr w.heap.size (.slice p S.ds.length c) (.slice p2 S.is.length c2) (.slice p3 S.ns.length c3) (.slice p4 S.vs.length c4)) ∧ Hid (∀ j, j < k → rngAt S.ds m l j = true)) (fun i _ => S.ds.length - (intOf i).toNat)
      case atStart => exact ⟨0, Nat.zero_le _, rfl, Lib.hid ⟨HB1.out, HX1.out⟩, Lib.hid (fun j hj => by omega)⟩
      case round =>
        obtain ⟨k, hk, rfl, HB, HJk⟩ := hrel
        clear x0 x1 x2 x3
        by_cases hlk : k < S.ds.length
        · rcases HC.out with h3 | ⟨b, off, rfl, hlt, hcell⟩
          · rw [h3] at hlk; simp at hlk
          obtain ⟨c0, c1⟩ := hcell k hlk
          have c0 : wr.cell? ⟨b, off + k * 2, none⟩ = _ := (HB.out.1.cell (p := ⟨b, off + k * 2, none⟩) hlt).trans c0
          have c1 : wr.cell? ⟨b, off + k * 2 + 1, none⟩ = _ := (HB.out.1.cell (p := ⟨b, off + k * 2 + 1, none⟩) hlt).trans c1
          obtain ⟨b2, o2, hp2, hb2, hc2⟩ := HU.out.cell (i := k) (by omega)
          subst hp2
          have hc2 := cell_later HB.out.1 hc2
          have hc3 : wr.cell? ⟨b2, o2 + k, none⟩ = some (.int .i64 (cz l k)) := hc2
          have HHk := Lib.hid (fun w => (HH.out w k (by omega)).mono fun _ _ h => And.intro h.1 h.2.symm)
          have HAk := HAt.out k
          have HBk := Lib.hid (fun q => HBd.out k hlk q)
          have HNx := Lib.hid (fun q : rngAt S.ds m l k = true => fun j (hj : j < k + 1) => if e : j = k then (e ▸ q : rngAt S.ds m l j = true) else HJk.out j (by omega))
          have hB1 := below_one wr (.cells #[.string (dn S.ds k), .int .i64 (dz S.ds k)] 73)
          have hc4 := cell_later hB1 hc3
          have HB1k := Lib.hid (And.intro (HB.out.1.alloc HB.out.1.size (.cells #[.string (dn S.ds k), .int .i64 (dz S.ds k)] 73)) (HB.out.2.below hB1))
          have hle : Hid (k + 1 ≤ S.ds.length) := Lib.hid (by omega)
          have hwr := HB.out.1.size
          clear hc2 hB1 hcell
          generalize dn S.ds k = x at *
          generalize dz S.ds k = z at *
          generalize cz l k = y at *
          generalize rngAt S.ds m l k = t at *
          generalize bitG m k = bt at *
          cases bt with
          | false =>
            have HNy := Lib.hid (HNx.out (by rw [HAk]; rfl))
            clear HNx HBk HAk hc3 hc4
            go_upto_region 9 with fail
            go_quiet ((go_at_call 94; exact Calls.quiet_of_same (HHk.out _)))
            have HB2 := Lib.hid (And.intro (below_drewN HB1k.out.1 nq) (show Box ((wr.alloc (.cells #[.string x, .int .i64 z] 73)).drewN nq) w.heap.size _ _ _ _ from HB1k.out.2))
            go_wp2
            go_roundw
            case rel => exact ⟨k + 1, hle.out, by go_num, HB2, HNy⟩
            case measure => simp [intOf]; omega
          | true =>
            by_cases hy0 : y < 0
            · have hR := HE2.out (HBk.out (by rw [HAk, decide_eq_false (p := 0 ≤ y) (by omega)]; rfl))
              obtain ⟨rfl, rfl⟩ := hR
              clear HNx HBk HAk
              go_upto_region 9 with fail
              go_quiet ((go_at_call 94; exact Calls.quiet_of_same (HHk.out _)))
              have HB2 := Lib.hid (below_drewN HB1k.out.1 nq)
              go_wp2
              exact bodyPost_ret (v := .tuple #[.int .u64 0, .int .i64 2]) (by simp [results, Tryz.results34, go_sem]) rfl ⟨rfl, HB2.out⟩
            · by_cases hyz : z ≤ y
              · have hR := HE2.out (HBk.out (by rw [HAk, decide_eq_false (p := y < z) (by omega)]; simp))
                obtain ⟨rfl, rfl⟩ := hR
                clear HNx HBk HAk
                go_upto_region 9 with fail
                go_quiet ((go_at_call 94; exact Calls.quiet_of_same (HHk.out _)))
                have HB2 := Lib.hid (below_drewN HB1k.out.1 nq)
                go_wp2
                exact bodyPost_ret (v := .tuple #[.int .u64 0, .int .i64 2]) (by simp [results, Tryz.results34, go_sem]) rfl ⟨rfl, HB2.out⟩
              · have HNy := Lib.hid (HNx.out (by rw [HAk]; simp; omega))
                clear HNx HBk HAk
                go_upto_region 9 with fail
                go_quiet ((go_at_call 94; exact Calls.quiet_of_same (HHk.out _)))
                have HB2 := Lib.hid (And.intro (below_drewN HB1k.out.1 nq) (show Box ((wr.alloc (.cells #[.string x, .int .i64 z] 73)).drewN nq) w.heap.size _ _ _ _ from HB1k.out.2))
                go_wp2
                go_roundw
                case rel => exact ⟨k + 1, hle.out, by go_num, HB2, HNy⟩
                case measure => simp [intOf]; omega
        · have : k = S.ds.length := by omega
          subst this
          have hR := HE0.out (HG.out HJk.out)
          obtain ⟨rfl, rfl⟩ := hR
          have HQ := Lib.hid (fun w1 hb => HJ.out w1 hb (HI.out HJk.out))
          obtain ⟨y0, y1, y2, y3⟩ := HB.out.2.reads
          go_wp2_with fail
          refine (HQ.out _ HB.out.1).mono ?_; rintro e w2 ⟨rfl, hb⟩
          have HB2 := Lib.hid (below_then HB.out.1 hb)
          clear hb
          go_wp2_with fail
          exact bodyPost_ret (v := .tuple #[.int .u64 ol, .int .i64 0]) (by simp [results, Tryz.results34, go_sem]) rfl ⟨rfl, HB2.out⟩
    · have hE : ofE S m l = 3 := by unfold ofE; rw [if_pos hn, if_neg hl]
      have hL : ofL S m l = 0 := by unfold ofL; rw [hE]; rfl
      rw [hE, hL]
      have hne : ((l.length : Int) != (S.ds.length : Int)) = true := by simp; omega
      generalize keysL S.ds m S.ds.length = ky at *
      clear hn hE h hw hy HH hL hl hd HD
      go_enter Tryz.func34, Tryz.ntmps34
      go_wp2_with fail
      refine (HN.out _ HB0.out).mono ?_; rintro e w1 ⟨rfl, hb⟩
      have HB1 := Lib.hid (below_then HB0.out hb)
      obtain ⟨x0, x1, x2, x3⟩ := (HX.out.below hb).reads
      clear hb
      go_wp2_with fail
      exact bodyPost_ret (v := .tuple #[.int .u64 0, .int .i64 3]) (by simp [results, Tryz.results34, go_sem]) rfl ⟨rfl, HB1.out⟩
  · obtain ⟨⟨p, c, rfl⟩, ⟨p2, c2, rfl⟩, ⟨p3, c3, rfl⟩, p4, c4, rfl⟩ := h.slices
    have hE : ofE S m l = numE S m := by unfold ofE; rw [if_neg hn]
    have hL : ofL S m l = 0 := by unfold ofL; rw [hE, if_neg hn]
    rw [hE, hL]
    rw [if_neg hn] at HN
    have hz : ((numE S m : Int) != 0) = true := by simp; omega
    generalize (numE S m : Int) = ne at *
    clear hn hE h hw hL
    go_enter Tryz.func34, Tryz.ntmps34
    go_wp2_with fail
    refine (HN.out _ HB0.out).mono ?_; rintro e w1 ⟨rfl, hb⟩
    have HB1 := Lib.hid (below_then HB0.out hb)
    clear hb
    go_wp2_with fail
    exact bodyPost_ret (v := .tuple #[.int .u64 0, .int .i64 ne]) (by simp [results, Tryz.results34, go_sem]) rfl ⟨rfl, HB1.out⟩
end Go.Proofs.YtigikgphipebiaaGreatDoor
