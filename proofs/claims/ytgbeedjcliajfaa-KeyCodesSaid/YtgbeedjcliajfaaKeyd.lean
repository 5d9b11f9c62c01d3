/- Layer 13: the program's Codes, Code, Down, Of. -/
import Derived.Test.YtgbeedjcliajfaaKeyc
namespace Go.Proofs.Ytgbeedjcliajfaa
set_option maxRecDepth 100000
open Go.RowKit
set_option linter.unusedVariables false
theorem bit_test {m : Int} (m0 : 0 ≤ m) (k : Nat) : bitG m k = m.toNat.testBit k := by
  obtain ⟨M, rfl⟩ : ∃ M : Nat, m = M := ⟨m.toNat, by omega⟩
  rw [Nat.testBit_eq_decide_div_mod_eq, Int.toNat_natCast]
  unfold bitG
  have e : ((2 ^ k : Nat) : Int) = 2 ^ k := by rw [Int.natCast_pow]; rfl
  rw [← e]
  have h : ((M : Int) / ((2 ^ k : Nat) : Int) % 2 = 1) ↔ M / 2 ^ k % 2 = 1 := by omega
  by_cases q : M / 2 ^ k % 2 = 1
  · rw [decide_eq_true q, decide_eq_true (h.2 q)]
  · rw [decide_eq_false q, decide_eq_false (fun x => q (h.1 x))]
/-- A set holds no dimension that another has not. -/
def subM (b a : Int) : Bool := (List.range 32).all fun k => !bitG b k || bitG a k
theorem sub_iff {b a : Int} (b0 : 0 ≤ b) (b1 : b ≤ 4294967295) : subM b a = true ↔ ∀ k, bitG b k = true → bitG a k = true := by
  unfold subM
  rw [List.all_eq_true]
  constructor
  · intro h k hk
    by_cases hk2 : k < 32
    · have := h k (by simpa using hk2)
      rw [hk] at this
      simpa using this
    · rw [bit_test b0, Nat.testBit_lt_two_pow (Nat.lt_of_lt_of_le (show b.toNat < 2 ^ 32 by omega) (Nat.pow_le_pow_right (by decide) (by omega)))] at hk
      cases hk
  · intro h k hk
    by_cases hb : bitG b k = true
    · rw [h k hb]; simp
    · rw [eq_false_of_ne_true hb]; simp
theorem sub_bits {b a : Int} (b0 : 0 ≤ b) (b1 : b ≤ 4294967295) (a0 : 0 ≤ a) (a1 : a ≤ 4294967295) : (bits .andNot .u32 b a != 0) = !subM b a := by
  rw [u32_andNot b a b0 (by omega) a0 (by omega)]
  have hk : ∀ k, (b.toNat &&& (4294967295 - a.toNat)).testBit k = (bitG b k && !bitG a k) := fun k => by
    rw [Nat.testBit_and, bit_test b0, bit_test a0, show 4294967295 - a.toNat = 2 ^ 32 - (a.toNat + 1) by omega, Nat.testBit_two_pow_sub_succ (by omega)]
    by_cases h : k < 32
    · simp [h]
    · rw [Nat.testBit_lt_two_pow (Nat.lt_of_lt_of_le (show b.toNat < 2 ^ 32 by omega) (Nat.pow_le_pow_right (by decide) (by omega)))]
      simp
  by_cases hs : subM b a = true
  · have h := (sub_iff (a := a) b0 b1).1 hs
    have e : b.toNat &&& (4294967295 - a.toNat) = 0 := Nat.eq_of_testBit_eq fun k => by
      rw [hk, Nat.zero_testBit]
      by_cases q : bitG b k = true
      · rw [h k q]; simp
      · rw [eq_false_of_ne_true q]; simp
    rw [e, hs]; rfl
  · have e : b.toNat &&& (4294967295 - a.toNat) ≠ 0 := fun e => hs ((sub_iff b0 b1).2 fun k q => by
      have := hk k
      rw [e, Nat.zero_testBit, q] at this
      simpa using this.symm)
    rw [eq_false_of_ne_true hs]
    simp only [Bool.not_false, bne_iff_ne]
    omega
theorem and_bits {a b : Int} (a0 : 0 ≤ a) (a1 : a ≤ 4294967295) (b0 : 0 ≤ b) (b1 : b ≤ 4294967295) : 0 ≤ bits .and .u32 a b ∧ bits .and .u32 a b ≤ 4294967295 ∧ ∀ k, bitG (bits .and .u32 a b) k = (bitG a k && bitG b k) := by
  rw [u32_and a b a0 (by omega) b0 (by omega)]
  have h : a.toNat &&& b.toNat < 2 ^ 32 := Nat.and_lt_two_pow _ (by omega)
  refine ⟨by omega, by omega, fun k => ?_⟩
  rw [bit_test (by omega), bit_test a0, bit_test b0, Int.toNat_natCast, Nat.testBit_and]
/-- Why there are no codes: 0 where there are. -/
def codE (S : Sc) (m q : Int) : Nat := if numE S m = 0 then if keysL S.ds m S.ds.length ≤ q then 2 else 0 else numE S m
def CodesR (B : Nat) (w : World) (S : Sc) (m q : Int) (e : Ending) (w' : World) : Prop :=
  (∃ v, e = .returned (.tuple #[v, .int .i64 (codE S m q)]) ∧ IOwn w' B v (if codE S m q = 0 then codesL S.ds m q else [])) ∧ Below B w w'
theorem cod_yes {S : Sc} {m q : Int} (h : codE S m q = 0) : numE S m = 0 ∧ q < keysL S.ds m S.ds.length := by
  unfold codE at h
  split at h
  · rename_i h1
    split at h
    · cases h
    · exact ⟨h1, by omega⟩
  · rename_i h1; exact absurd h h1
theorem iown_mono {w : World} {B B' : Nat} {v : Value} {l : List Int} (h : IOwn w B v l) (hb : B' ≤ B) : IOwn w B' v l := by
  refine ⟨h.1, ?_⟩
  rcases h.2 with h0 | ⟨g, cap, cur, h1, h2, h3⟩
  · exact .inl h0
  · exact .inr ⟨g, cap, cur, h1, Nat.le_trans hb h2, h3⟩
theorem iown0 (w : World) (B : Nat) : IOwn w B (.slice none 0 0) [] := ⟨by simp, .inl ⟨rfl, rfl⟩⟩
theorem sc_few {S : Sc} (h : checkL S = 0) : S.ds.length ≤ 6 ∧ sizB S.ds = true := ⟨(cnt_iff.1 (check_cnt h).1).2.1, (check_cnt h).2.1⟩
set_option maxHeartbeats 4000000 in
theorem codes_any (w : World) (D I M V : Value) (S : Sc) (m q : Int) (h : Sch4 w D I M V S) (hw : SWf S) (m0 : 0 ≤ m) (m1 : m ≤ 4294967295) (q0 : 0 ≤ q) (q1 : q ≤ 18446744073709551615) :
    Calls Try.prog 14 #[SchV D I M V, .int .u32 m, .int .u64 q] w (CodesR w.heap.size w S m q) := by
  have HB0 := Lib.hid (below_one w (SchO D I M V))
  have HX := Lib.hid (box_new w D I M V)
  have HN := Lib.hid (fun w1 (hb : Below w.heap.size w w1) => number_any w1 D I M V S m (h.below hb) hw m0 m1)
  by_cases hn : numE S m = 0
  · rw [hn, if_pos rfl] at HN
    have hy := sc_few (num_yes hn).1
    have HS := Lib.hid (fun w1 (hb : Below w.heap.size w w1) => split_any w1 D S.ds m q (h.below hb).d (by omega) hy.2 m0 m1 q0 q1)
    obtain ⟨⟨a, c, rfl⟩, ⟨a2, c2, rfl⟩, ⟨a3, c3, rfl⟩, a4, c4, rfl⟩ := h.slices
    unfold CodesR
    by_cases hq : keysL S.ds m S.ds.length ≤ q
    · have hE : codE S m q = 2 := by unfold codE; rw [if_pos hn, if_pos hq]
      rw [hE, if_neg (by decide)]
      generalize keysL S.ds m S.ds.length = ky at *
      clear hn hE h hw hy HS
      go_enter Try.func14, Try.ntmps14
      go_wp2_with fail
      refine (HN.out _ HB0.out).mono ?_; rintro e w1 ⟨rfl, hb⟩
      have HB1 := Lib.hid (below_then HB0.out hb)
      clear hb
      go_wp2_with fail
      exact bodyPost_ret (v := .tuple #[.slice none 0 0, .int .i64 2]) (by simp [results, Try.results14, go_sem]) rfl ⟨⟨_, rfl, iown0 _ _⟩, HB1.out⟩
    · have hE : codE S m q = 0 := by unfold codE; rw [if_pos hn, if_neg hq]
      rw [hE, if_pos rfl]
      generalize keysL S.ds m S.ds.length = ky at *
      generalize codesL S.ds m q = l at *
      clear hn hE h hw hy
      go_enter Try.func14, Try.ntmps14
      go_wp2_with fail
      refine (HN.out _ HB0.out).mono ?_; rintro e w1 ⟨rfl, hb⟩
      have HB1 := Lib.hid (below_then HB0.out hb)
      obtain ⟨x0, x1, x2, x3⟩ := (HX.out.below hb).reads
      clear hb
      go_wp2_with fail
      refine (HS.out _ HB1.out).mono ?_; rintro e w2 ⟨⟨v, rfl, hv⟩, hb⟩
      have HB2 := Lib.hid (below_then HB1.out hb)
      have HV := Lib.hid (iown_mono hv HB1.out.size)
      obtain ⟨pa, pl, pc, rfl⟩ := own_slice3 hv
      clear hb hv
      go_wp2_with fail
      exact bodyPost_ret (v := .tuple #[.slice pa pl pc, .int .i64 0]) (by simp [results, Try.results14, go_sem]) rfl ⟨⟨_, rfl, HV.out⟩, HB2.out⟩
  · obtain ⟨⟨a, c, rfl⟩, ⟨a2, c2, rfl⟩, ⟨a3, c3, rfl⟩, a4, c4, rfl⟩ := h.slices
    have hE : codE S m q = numE S m := by unfold codE; rw [if_neg hn]
    unfold CodesR
    rw [hE, if_neg hn]
    rw [if_neg hn] at HN
    have hz : ((numE S m : Int) != 0) = true := by simp; omega
    generalize (numE S m : Int) = ne at *
    clear hn hE h hw
    go_enter Try.func14, Try.ntmps14
    go_wp2_with fail
    refine (HN.out _ HB0.out).mono ?_; rintro e w1 ⟨rfl, hb⟩
    have HB1 := Lib.hid (below_then HB0.out hb)
    clear hb
    go_wp2_with fail
    exact bodyPost_ret (v := .tuple #[.slice none 0 0, .int .i64 ne]) (by simp [results, Try.results14, go_sem]) rfl ⟨⟨_, rfl, iown0 _ _⟩, HB1.out⟩
/-- One code of a key. -/
def codeL (S : Sc) (m q d : Int) : Int := if codE S m q = 0 ∧ 0 ≤ d ∧ d < S.ds.length then cz (codesL S.ds m q) d.toNat else -1
set_option maxHeartbeats 4000000 in
theorem code_any (w : World) (D I M V : Value) (S : Sc) (m q d : Int) (h : Sch4 w D I M V S) (hw : SWf S) (m0 : 0 ≤ m) (m1 : m ≤ 4294967295) (q0 : 0 ≤ q) (q1 : q ≤ 18446744073709551615) :
    Calls Try.prog 16 #[SchV D I M V, .int .u32 m, .int .u64 q, .int .i64 d] w fun e w' => e = .returned (.int .i64 (codeL S m q d)) ∧ Below w.heap.size w w' := by
  have HB0 := Lib.hid (below_one w (SchO D I M V))
  have HX := Lib.hid (box_new w D I M V)
  have HC := Lib.hid (fun w1 (hb : Below w.heap.size w w1) => codes_any w1 D I M V S m q (h.below hb) hw m0 m1 q0 q1)
  obtain ⟨⟨a, c, rfl⟩, ⟨a2, c2, rfl⟩, ⟨a3, c3, rfl⟩, a4, c4, rfl⟩ := h.slices
  clear h hw
  unfold CodesR at HC
  by_cases hE : codE S m q = 0
  · rw [hE, if_pos rfl] at HC
    have hl := codes_len S.ds m q
    have HL := Lib.hid (show codeL S m q d = if 0 ≤ d ∧ d < (codesL S.ds m q).length then cz (codesL S.ds m q) d.toNat else -1 by unfold codeL; simp [hE, hl])
    generalize codeL S m q d = r at *
    generalize codesL S.ds m q = l at *
    clear hE hl
    go_enter Try.func16, Try.ntmps16
    go_wp2_with fail
    refine (HC.out _ HB0.out).mono ?_; rintro e w1 ⟨⟨v, rfl, hv⟩, hb⟩
    have HB1 := Lib.hid (below_then HB0.out hb)
    have hI := Ints.own hv
    obtain ⟨pa, pc, rfl, -, -⟩ := id hI
    clear hb hv
    by_cases h0 : 0 ≤ d ∧ d < l.length
    · obtain ⟨h0, h1⟩ := h0
      have hr := HL.out
      rw [if_pos ⟨h0, h1⟩] at hr
      obtain ⟨dn, rfl⟩ : ∃ dn : Nat, d = dn := ⟨d.toNat, by omega⟩
      obtain ⟨b, o, rfl, hb, hc0⟩ := hI.cell (i := dn) (by omega)
      have hc : w1.cell? ⟨b, o + dn, none⟩ = some (.int .i64 (cz l dn)) := hc0
      clear hc0
      rw [Int.toNat_natCast] at hr
      generalize cz l dn = y at *
      subst hr
      clear hI
      go_wp2_with fail
      go_ret
      exact ⟨rfl, HB1.out⟩
    · have hr := HL.out
      rw [if_neg h0] at hr
      subst hr
      clear hI
      by_cases h2 : d < 0
      · clear h0
        go_wp2_with fail
        go_ret
        exact ⟨rfl, HB1.out⟩
      · have h3 : (l.length : Int) ≤ d := by omega
        clear h0
        go_wp2_with fail
        go_ret
        exact ⟨rfl, HB1.out⟩
  · rw [if_neg hE] at HC
    have HL := Lib.hid (show codeL S m q d = -1 by unfold codeL; simp [hE])
    have hz : ((codE S m q : Int) != 0) = true := by simp; omega
    generalize (codE S m q : Int) = ne at *
    generalize codeL S m q d = r at *
    clear hE
    go_enter Try.func16, Try.ntmps16
    go_wp2_with fail
    refine (HC.out _ HB0.out).mono ?_; rintro e w1 ⟨⟨v, rfl, hv⟩, hb⟩
    have HB1 := Lib.hid (below_then HB0.out hb)
    obtain ⟨pa, pc, rfl⟩ := own_slice hv
    clear hb hv
    go_wp2_with fail
    go_ret
    rw [HL.out]
    exact ⟨rfl, HB1.out⟩
end Go.Proofs.Ytgbeedjcliajfaa
