/- The program's small functions: Size, tail, bodyLength; bytes.Equal, bytes.Clone. -/
import Derived.Test.YtacogaeciodjeaaDoorFrma
namespace Go.Proofs.YtacogaeciodjeaaDoor
set_option maxRecDepth 100000
open Go.RowKit
set_option linter.unusedVariables false
def sizeN (n : Int) : Int := if n < 0 ∨ 60000 < n then 0 else n + 8
theorem psize_any (n : Int) (w : World) : Calls Tryd.prog 7 #[.int .i64 n] w fun e w' => e = .returned (.int .i64 (sizeN n)) ∧ w = w' := by
  have hN := Lib.hid (show sizeN n = if n < 0 ∨ 60000 < n then 0 else n + 8 from rfl)
  generalize sizeN n = m at *
  by_cases h1 : n < 0
  · obtain rfl : m = 0 := by rw [hN.out, if_pos (.inl h1)]
    go_enter Tryd.func7, Tryd.ntmps7
    go_wp2_with fail
    go_ret
    exact ⟨rfl, rfl⟩
  · by_cases h2 : 60000 < n
    · obtain rfl : m = 0 := by rw [hN.out, if_pos (.inr h2)]
      go_enter Tryd.func7, Tryd.ntmps7
      go_wp2_with fail
      go_ret
      exact ⟨rfl, rfl⟩
    · obtain rfl : m = n + 8 := by rw [hN.out, if_neg (by omega)]
      go_enter Tryd.func7, Tryd.ntmps7
      go_wp2_with fail
      go_ret
      exact ⟨ret_i (by omega), rfl⟩
theorem equal_any (v1 v2 : Value) (a b : List Int) (w : World) (h1 : Ints .u8 w v1 a) (h2 : Ints .u8 w v2 b) (ha : Byt a) (hb : Byt b) :
    Calls Tryd.prog 18 #[v1, v2] w fun e w' => e = .returned (.bool (decide (a = b))) ∧ w = w' := by
  have c1 := conv_ints h1 ha
  have c2 := conv_ints h2 hb
  have HE := Lib.hid (strB_beq ha hb)
  obtain ⟨p1, q1, rfl, -, -⟩ := h1
  obtain ⟨p2, q2, rfl, -, -⟩ := h2
  generalize strB a = A at *
  generalize strB b = B at *
  go_enter Tryd.func18, Tryd.ntmps18
  go_wp2_with fail
  go_ret
  exact ⟨by show Ending.returned (Value.bool _) = _; rw [HE.out], rfl⟩
theorem lit4 (w : World) (x0 x1 x2 x3 : Int) (l : List Int) (h : l = [x0, x1, x2, x3]) : BOwn (w.alloc (.cells #[.int .u8 x0, .int .u8 x1, .int .u8 x2, .int .u8 x3] 5)) w.heap.size (.slice (some ⟨w.heap.size, 0, none⟩) 4 4) l := by
  subst h
  exact World.ownsRow_lit w #[.int .u8 x0, .int .u8 x1, .int .u8 x2, .int .u8 x3] 4 (Nat.le_refl _) (by unfold maxLen; omega) rfl
theorem ptail_any (v : Value) (b : List Int) (w : World) (hv : Ints .u8 w v b) (hb : Byt b) (hl : b.length ≤ 1099511627776) (hT : Fours w) :
    Calls Tryd.prog 14 #[v] w (BytesP w (fourB (moreN 0 b))) := by
  have HS := Lib.hid (psum_any v b w hv hb hl hT)
  have hm := more_lt 0 b
  have HF := Lib.hid (show fourB (moreN 0 b) = _ from rfl)
  obtain ⟨a, cap, rfl, -, -⟩ := hv
  clear hT hb hl
  generalize moreN 0 b = p at *
  have h7 : (p : Int) / 16777216 % 256 = (p : Int) / 16777216 := by omega
  go_enter Tryd.func14, Tryd.ntmps14
  go_wp2_with fail
  refine (HS.out).mono ?_; rintro e w' ⟨rfl, rfl⟩
  go_wp2_with fail
  go_ret
  refine ⟨⟨_, rfl, lit4 _ _ _ _ _ _ ?_⟩, below_one _ _⟩
  simp [fourB]; omega
theorem own_lit0 (w : World) : BOwn (w.alloc (.cells #[] 5)) w.heap.size (.slice (some ⟨w.heap.size, 0, none⟩) 0 0) [] :=
  ⟨by simp, .inr ⟨w.heap.size, 0, _, rfl, Nat.le_refl _, heap_alloc_new w _, by simp, by decide, by simp, by simp⟩⟩
theorem clone_any (v : Value) (l : List Int) (w : World) (hv : Ints .u8 w v l) (hl : l.length ≤ 100000) : Calls Tryd.prog 19 #[v] w (BytesP w l) := by
  obtain ⟨i0, hi, hz0, hz1, hz2⟩ := info_parts Tryd.infoU8
  have HV := Lib.hid hv
  obtain ⟨a, cap, rfl, hcap, ha⟩ := hv
  cases a with
  | none =>
    have hn : l = [] := by
      rcases ha with h | ⟨b, off, h, _⟩
      · exact h
      · cases h
    subst hn
    have hop := fun w => Lib.run_eql_slice_nil (P := Tryd.prog) w 22 5 none 0 cap 0 0 Tryd.underlying22
    go_enter Tryd.func19, Tryd.ntmps19
    go_wp2_with fail
    go_ret
    exact ⟨⟨_, rfl, own0 w _⟩, Below.refl _ _⟩
  | some ad =>
    clear ha
    have hop := fun w => Lib.run_eql_slice_nil (P := Tryd.prog) w 22 5 (some ad) l.length cap 0 0 Tryd.underlying22
    have HB := Lib.hid (below_one w (.cells #[] 5))
    go_enter Tryd.func19, Tryd.ntmps19
    go_wp2_with (at_builtin; refine wpList_append_want _ (by rfl) _ _ 22 rfl w.heap.size 5 i0 (.int .u8 0) 1 Tryd.underlying22 hi hz0 hz1 hz2 rfl .u8 _ _ [] l rfl rfl (own_lit0 w) (HV.out.below HB.out) (by unfold maxLen; simp; omega) (by simp; omega) (by simp) ?_; intro v' w1 hown hgrow; have HQ := Lib.hid (And.intro hown (HB.out.grown hgrow (by simp) (fun k hk => by have e : w.heap.size = k := Option.some.inj hk; omega))); obtain ⟨pv', lv', cv', rfl⟩ := own_slice3 hown; clear hown hgrow)
    go_ret
    exact ⟨⟨_, rfl, HQ.out.1⟩, HQ.out.2⟩
/-- The first four bytes, and 0 for those that are missing. -/
def arrOf (b : List Int) : List Value := ((b ++ [0, 0, 0, 0]).take 4).map (Value.int .u8)
theorem splice_arr (b : List Int) : splice [Value.int .u8 0, .int .u8 0, .int .u8 0, .int .u8 0] 0 ((b.take 4).map (Value.int .u8)) = arrOf b := by
  unfold arrOf
  rcases b with _ | ⟨a0, _ | ⟨a1, _ | ⟨a2, _ | ⟨a3, t⟩⟩⟩⟩ <;> simp [splice]
theorem arr_cells (b : List Int) : arrOf b = [.int .u8 (b.getD 0 0), .int .u8 (b.getD 1 0), .int .u8 (b.getD 2 0), .int .u8 (b.getD 3 0)] := by
  unfold arrOf
  rcases b with _ | ⟨a0, _ | ⟨a1, _ | ⟨a2, _ | ⟨a3, t⟩⟩⟩⟩ <;> simp [List.getD]
theorem or_i64 (a b k : Nat) (hb : b < 2 ^ k) (h : 2 ^ k * a + b < 9223372036854775808) : bits .or .i64 ((2 ^ k * a : Nat) : Int) (b : Int) = ((2 ^ k * a + b : Nat) : Int) := by
  show IntKind.i64.wrap ((BitVec.ofInt 64 ((2 ^ k * a : Nat) : Int) ||| BitVec.ofInt 64 (b : Int)).toNat : Int) = _
  rw [BitVec.toNat_or, BitVec.ofInt_natCast, BitVec.ofInt_natCast, BitVec.toNat_ofNat, BitVec.toNat_ofNat, Nat.mod_eq_of_lt (by omega : 2 ^ k * a < 2 ^ 64), Nat.mod_eq_of_lt (by omega : b < 2 ^ 64), ← Nat.two_pow_add_eq_or_of_lt hb, IntKind.wrap_i64]
  omega
theorem or_len {x1 x2 x3 : Int} (h1 : 0 ≤ x1 ∧ x1 ≤ 255) (h2 : 0 ≤ x2 ∧ x2 ≤ 255) (h3 : 0 ≤ x3 ∧ x3 ≤ 255) :
    bits .or .i64 (x1 * 65536) (x2 * 256) = x1 * 65536 + x2 * 256 ∧ bits .or .i64 (x1 * 65536 + x2 * 256) x3 = ((x1.toNat * 65536 + x2.toNat * 256 + x3.toNat : Nat) : Int) := by
  obtain ⟨X1, rfl⟩ := Int.eq_ofNat_of_zero_le h1.1
  obtain ⟨X2, rfl⟩ := Int.eq_ofNat_of_zero_le h2.1
  obtain ⟨X3, rfl⟩ := Int.eq_ofNat_of_zero_le h3.1
  have k1 := or_i64 X1 (X2 * 256) 16 (by omega) (by omega)
  have k2 := or_i64 (X1 * 256 + X2) X3 8 (by omega) (by omega)
  refine ⟨?_, ?_⟩
  · rw [show ((X1 : Int) * 65536) = ((2 ^ 16 * X1 : Nat) : Int) by omega, show ((X2 : Int) * 256) = ((X2 * 256 : Nat) : Int) by omega, k1]; omega
  · rw [show ((X1 : Int) * 65536 + (X2 : Int) * 256) = ((2 ^ 8 * (X1 * 256 + X2) : Nat) : Int) by omega, k2]; simp; omega
theorem ints_src {w : World} {a : Option Addr} {l cap : Nat} {b : List Int} (hv : Ints .u8 w (.slice a l cap) b) (h0 : 0 < b.length) : ∃ ad, a = some ad ∧ ∀ j u, (b.map (Value.int .u8))[j]? = some u → w.cell? (ad.add j) = some u := by
  obtain ⟨a', cap', e, hc, ha⟩ := hv
  simp only [Value.slice.injEq] at e
  obtain ⟨rfl, rfl, rfl⟩ := e
  rcases ha with h | ⟨bb, off, rfl, hbl, hcell⟩
  · subst h; simp at h0
  · refine ⟨_, rfl, fun j u hj => ?_⟩
    rw [List.getElem?_map] at hj
    obtain ⟨x, hx, rfl⟩ := Option.map_eq_some_iff.1 hj
    have hl := (List.getElem?_eq_some_iff.1 hx).1
    have hh := hcell j hl
    have e1 : b.getD j 0 = x := by simp [List.getD, hx]
    rw [e1] at hh
    by_cases h0 : j = 0
    · subst h0; simpa [Addr.add] using hh
    · simpa [Addr.add, h0] using hh
theorem take_src {w : World} {a : Option Addr} {l cap n : Nat} {b : List Int} (hv : Ints .u8 w (.slice a l cap) b) :
    0 < ((b.take n).map (Value.int .u8)).length → ∃ ad, a = some ad ∧ ∀ j u, ((b.take n).map (Value.int .u8))[j]? = some u → w.cell? (ad.add j) = some u := by
  intro h0
  rw [List.length_map, List.length_take] at h0
  obtain ⟨ad, e, hs⟩ := ints_src hv (by omega)
  refine ⟨ad, e, fun j u hj => hs j u ?_⟩
  have hjn : j < n := by have := (List.getElem?_eq_some_iff.1 hj).1; rw [List.length_map, List.length_take] at this; omega
  rw [List.getElem?_map, List.getElem?_take, if_pos hjn] at hj
  rw [List.getElem?_map, hj]
set_option maxHeartbeats 1000000 in
theorem plen_any (v : Value) (b : List Int) (w : World) (hv : Ints .u8 w v b) (hb : Byt b) :
    Calls Tryd.prog 17 #[v] w fun e w' => e = .returned (.int .i64 (lenN b)) ∧ Below w.heap.size w w' := by
  obtain ⟨i0, hi, hz0, hz1, hz2⟩ := info_parts Tryd.infoU8
  have hsz : (Tryd.prog.info? 5).map (·.size) = some 1 := by rw [hi]; simp [hz1]
  have HV := Lib.hid (hv.below (below_one w (.cells #[.int .u8 0, .int .u8 0, .int .u8 0, .int .u8 0] 40)))
  have HB := Lib.hid hb
  have HN := Lib.hid (show lenN b = (b.getD 1 0).toNat * 65536 + (b.getD 2 0).toNat * 256 + (b.getD 3 0).toNat from rfl)
  have hg := heap_alloc_new w (.cells #[.int .u8 0, .int .u8 0, .int .u8 0, .int .u8 0] 40)
  have HG := Lib.hid hg
  have HW := Lib.hid (below_one w (.cells #[.int .u8 0, .int .u8 0, .int .u8 0, .int .u8 0] 40))
  obtain ⟨a, cap, rfl, hcap, hcells⟩ := hv
  have h1 := byt_getD hb 1
  have h2 := byt_getD hb 2
  have h3 := byt_getD hb 3
  clear hb hg
  have HA := Lib.hid (arr_cells b)
  have HS := Lib.hid (splice_arr b)
  generalize lenN b = n at *
  generalize b.getD 1 0 = x1 at *
  generalize b.getD 2 0 = x2 at *
  generalize b.getD 3 0 = x3 at *
  generalize b.getD 0 0 = x0 at *
  obtain ⟨o1, o2⟩ := or_len h1 h2 h3
  rw [← HN.out] at o2
  have w1 : IntKind.i64.wrap (x1 * 65536) = x1 * 65536 := by rw [IntKind.wrap_i64]; omega
  have w2 : IntKind.i64.wrap (x2 * 256) = x2 * 256 := by rw [IntKind.wrap_i64]; omega
  clear HN
  go_enter Tryd.func17, Tryd.ntmps17
  have hsrc := take_src (n := 4) HV.out
  have hcl : ((b.take 4).map (Value.int .u8)).length = Nat.min b.length 4 := by rw [List.length_map, List.length_take]; exact Nat.min_comm _ _
  have hfit : 0 + ((b.take 4).map (Value.int .u8)).length ≤ [Value.int .u8 0, .int .u8 0, .int .u8 0, .int .u8 0].length := by rw [List.length_map, List.length_take]; show 0 + min 4 b.length ≤ 4; omega
  have hone : ∀ u ∈ (b.take 4).map (Value.int .u8), u.oneCell' = true := fun u hu => by obtain ⟨x, _, rfl⟩ := List.mem_map.1 hu; rfl
  have HSR := Lib.hid hsrc
  have HCL := Lib.hid hcl
  have HFI := Lib.hid hfit
  have HON := Lib.hid hone
  clear hsrc hcl hfit hone
  go_wp2_with ((with_reducible refine wpList_copy_splice (o := ⟨some 6, _, _, _, _, _⟩) rfl (.tmp 4) (.tmp 5) 22 22 rfl 5 Tryd.underlying22 hsz _ _ 4 4 b.length cap rfl rfl w.heap.size 0 [.int .u8 0, .int .u8 0, .int .u8 0, .int .u8 0] 40 HG.out ((b.take 4).map (Value.int .u8)) HCL.out (fun h0 => ⟨rfl, HSR.out h0⟩) HFI.out HON.out w.heap.size w HW.out (Nat.le_refl _) ?_); intro w2 hg2 hb2; have hq := hg2.out; rw [HS.out, HA.out] at hq; have c1 : w2.cell? ⟨w.heap.size, 1, none⟩ = some (.int .u8 x1) := (by simp [World.cell?, hq]); have c2 : w2.cell? ⟨w.heap.size, 2, none⟩ = some (.int .u8 x2) := (by simp [World.cell?, hq]); have c3 : w2.cell? ⟨w.heap.size, 3, none⟩ = some (.int .u8 x3) := (by simp [World.cell?, hq]); have HB2 := Lib.hid hb2; clear hb2 hq hg2)
  go_ret
  exact ⟨rfl, HB2.out⟩
end Go.Proofs.YtacogaeciodjeaaDoor
