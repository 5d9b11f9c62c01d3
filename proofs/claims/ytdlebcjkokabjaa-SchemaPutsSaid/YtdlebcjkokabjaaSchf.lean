/- Layer 11: the program's Full, Keys, Views. -/
import Derived.Test.YtdlebcjkokabjaaSche
namespace Go.Proofs.Ytdlebcjkokabjaa
set_option maxRecDepth 100000
open Go.RowKit
set_option linter.unusedVariables false
theorem check_cnt {S : Sc} (h : checkL S = 0) : cntB S = true ∧ sizB S.ds = true ∧ vieB (fullL S.ds) S.vs = true := by
  unfold checkL at h
  split at h
  · cases h
  · rename_i h1
    split at h
    · cases h
    · split at h
      · cases h
      · split at h
        · cases h
        · rename_i h2
          split at h
          · cases h
          · rename_i h3
            exact ⟨by simpa using h1, by simpa using h2, by simpa using h3⟩
/-- The number of keys of a set: the product of the Sizes whose bits it has. -/
def keysL (ds : List (ByteArray × Int)) (m : Int) : Nat → Int
  | 0 => 1
  | k + 1 => if m / 2 ^ k % 2 = 1 then keysL ds m k * dz ds k else keysL ds m k
theorem prod_pos {ds : List (ByteArray × Int)} (h : sizB ds = true) : ∀ k, k ≤ ds.length → 1 ≤ prodL (ds.take k) ∧ prodL (ds.take k) ≤ 1099511627776
  | 0, _ => by simp [prodL]
  | k + 1, hk => by
    have i := prod_pos h k (by omega)
    have s := siz_get h (k := k) (by omega)
    refine ⟨?_, s.2.2⟩
    rw [prod_next (by omega)]
    have := Int.mul_le_mul i.1 s.1 (by omega) (by omega)
    omega
theorem keys_range {ds : List (ByteArray × Int)} (m : Int) (h : sizB ds = true) : ∀ k, k ≤ ds.length → 1 ≤ keysL ds m k ∧ keysL ds m k ≤ prodL (ds.take k)
  | 0, _ => by simp [prodL, keysL]
  | k + 1, hk => by
    have i := keys_range m h k (by omega)
    have s := siz_get h (k := k) (by omega)
    have p := prod_pos h k (by omega)
    rw [prod_next (by omega)]
    unfold keysL
    have e1 := Int.mul_le_mul i.1 s.1 (by omega) (by omega)
    have e2 := Int.mul_le_mul_of_nonneg_right i.2 (show 0 ≤ dz ds k by omega)
    have e3 := Int.mul_le_mul (Int.le_refl (prodL (ds.take k))) s.1 (by omega) (by omega)
    split
    · constructor <;> omega
    · constructor <;> omega
set_option maxHeartbeats 1000000 in
theorem full_any (w : World) (D I M V : Value) (S : Sc) (h : Sch4 w D I M V S) (hw : SWf S) :
    Calls Try.prog 11 #[SchV D I M V] w fun e w' => e = .returned (.int .u32 (if checkL S = 0 then fullL S.ds else 0)) ∧ Below w.heap.size w w' := by
  have HB0 := Lib.hid (below_one w (SchO D I M V))
  have hx0 := box_new w D I M V
  have HC := Lib.hid (fun w1 (hb : Below w.heap.size w w1) => check_any w1 D I M V S (h.below hb) hw)
  have HF := Lib.hid (fun w1 (hb : Below w.heap.size w w1) (hn : S.ds.length ≤ 6) => base_any w1 D I M V S (h.below hb) hn)
  have HX := Lib.hid hx0
  obtain ⟨⟨a, c, rfl⟩, ⟨a2, c2, rfl⟩, ⟨a3, c3, rfl⟩, a4, c4, rfl⟩ := h.slices
  by_cases hc : checkL S = 0
  · rw [if_pos hc]
    rw [hc] at HC
    clear h hw hx0
    go_enter Try.func11, Try.ntmps11
    go_wp2_with fail
    refine (HC.out _ HB0.out).mono ?_; rintro e w1 ⟨rfl, hb⟩
    have HB1 := Lib.hid (below_then HB0.out hb)
    obtain ⟨x0, x1, x2, x3⟩ := (HX.out.below hb).reads
    clear hb
    have hn := (cnt_iff.1 (check_cnt hc).1).2.1
    go_wp2_with fail
    refine (HF.out _ HB1.out hn).mono ?_; rintro e w2 ⟨rfl, hb⟩
    have HB2 := Lib.hid (below_then HB1.out hb)
    clear hb
    go_wp2_with fail
    go_ret
    exact ⟨rfl, HB2.out⟩
  · rw [if_neg hc]
    have hc2 : ((checkL S : Int) != 0) = true := by simp; omega
    generalize (checkL S : Int) = ck at *
    clear hc
    clear h hw hx0
    go_enter Try.func11, Try.ntmps11
    go_wp2_with fail
    refine (HC.out _ HB0.out).mono ?_; rintro e w1 ⟨rfl, hb⟩
    have HB1 := Lib.hid (below_then HB0.out hb)
    obtain ⟨x0, x1, x2, x3⟩ := (HX.out.below hb).reads
    clear hb
    go_wp2_with fail
    go_ret
    exact ⟨rfl, HB1.out⟩
theorem rows_two {W : World} {A B : Value} {a b : List Int} {T : TypeId} {N : Nat} (hN : W.heap.size = N) (hA : Ints .u32 W A a) (hB : Ints .u32 W B b) :
    RowsOf (Ints .u32) (W.alloc (.cells #[A, B] T)) (.slice (some ⟨N, 0, none⟩) 2 2) [a, b] := by
  subst hN
  have hb := below_one W (.cells #[A, B] T)
  refine ⟨_, rfl, by simp, fun k hk => ?_⟩
  have hk3 : k < 2 := hk
  rcases (by omega : k = 0 ∨ k = 1) with rfl | rfl
  · exact ⟨A, by simp [go_sem], hA.below hb⟩
  · exact ⟨B, by simp [go_sem], hB.below hb⟩
theorem set_one {k : IntKind} {w : World} {x : Int} {T : TypeId} {N : Nat} (hN : w.heap.size = N) : Ints k (w.alloc (.cells #[.int k x] T)) (.slice (some ⟨N, 0, none⟩) 1 1) [x] := by
  subst hN
  refine ⟨_, _, rfl, Nat.le_refl _, .inr ⟨w.heap.size, 0, rfl, by simp, fun i hi => ?_⟩⟩
  have h0 : i = 0 := by simp at hi; omega
  subst h0
  simp [go_sem]
set_option maxHeartbeats 2000000 in
theorem views_any (w : World) (D I M V : Value) (S : Sc) (h : Sch4 w D I M V S) (hw : SWf S) :
    Calls Try.prog 12 #[SchV D I M V] w fun e w' => (∃ v, e = .returned v ∧ Ints .u32 w' v (if checkL S = 0 then fullL S.ds :: S.vs else [])) ∧ Below w.heap.size w w' := by
  have HB0 := Lib.hid (below_one w (SchO D I M V))
  have hx0 := box_new w D I M V
  have HC := Lib.hid (fun w1 (hb : Below w.heap.size w w1) => check_any w1 D I M V S (h.below hb) hw)
  have HF := Lib.hid (fun w1 (hb : Below w.heap.size w w1) (hn : S.ds.length ≤ 6) => base_any w1 D I M V S (h.below hb) hn)
  have HX := Lib.hid hx0
  have HH := Lib.hid h
  obtain ⟨⟨a, c, rfl⟩, ⟨a2, c2, rfl⟩, ⟨a3, c3, rfl⟩, a4, c4, rfl⟩ := h.slices
  by_cases hc : checkL S = 0
  · rw [if_pos hc]
    rw [hc] at HC
    clear h hw hx0
    go_enter Try.func12, Try.ntmps12
    go_wp2_with fail
    refine (HC.out _ HB0.out).mono ?_; rintro e w1 ⟨rfl, hb⟩
    have HB1 := Lib.hid (below_then HB0.out hb)
    obtain ⟨x0, x1, x2, x3⟩ := (HX.out.below hb).reads
    clear hb
    have hcn := cnt_iff.1 (check_cnt hc).1
    have HL := Lib.hid (show [[fullL S.ds], S.vs].flatten.length ≤ 1000 by simp; omega)
    have HE := Lib.hid (show [[fullL S.ds], S.vs].flatten = fullL S.ds :: S.vs by simp)
    have HBa := Lib.hid (fun w' hb => HF.out w' hb hcn.2.1)
    clear HF hcn
    go_upto_region 3 with fail
    have hk : w1.drew.cell? ⟨w.heap.size, 0, none⟩ = some (.slice a S.ds.length c) ∧ w1.drew.cell? ⟨w.heap.size, 1, none⟩ = some (.slice a2 S.is.length c2) ∧ w1.drew.cell? ⟨w.heap.size, 2, none⟩ = some (.slice a3 S.ns.length c3) ∧ w1.drew.cell? ⟨w.heap.size, 3, none⟩ = some (.slice a4 S.vs.length c4) := ⟨by simp [x0], by simp [x1], by simp [x2], by simp [x3]⟩
    have hBw : Below w.heap.size w w1.drew := HB1.out.drew
    go_region_held3 (fun w' => w'.cell? ⟨w.heap.size, 0, none⟩ = some (.slice a S.ds.length c) ∧ w'.cell? ⟨w.heap.size, 1, none⟩ = some (.slice a2 S.is.length c2) ∧ w'.cell? ⟨w.heap.size, 2, none⟩ = some (.slice a3 S.ns.length c3) ∧ w'.cell? ⟨w.heap.size, 3, none⟩ = some (.slice a4 S.vs.length c4)) ((first | (with_reducible exact hk) | exact quad_hold (below_one _ _) hk | exact quad_hold (below_one _ _) (quad_hold (below_one _ _) hk)))
      (first
        | (go_at_call 24; refine (HBa.out _ hBw).mono ?_; rintro r w2 ⟨rfl, hb2⟩; have hk := quad_hold hb2 hk; have hBw := below_then hBw hb2; clear hb2)
        | (go_at_call 35; refine (concatU_any _ _ [[fullL S.ds], S.vs] (rows_two (by simp) (set_one rfl) (HH.out.v.below (below_then hBw (below_one _ _)))) HL.out (by simp)).mono ?_; rintro r w3 ⟨⟨v3, rfl, hv3⟩, hb3⟩; have HV3 := Lib.hid hv3; obtain ⟨pa3, pl3, pc3, rfl⟩ := own_slice3 hv3; have hk := quad_hold hb3 (quad_hold (below_one _ _) (quad_hold (below_one _ _) hk)); have hBw := below_then (below_then (below_then hBw (below_one _ _)) (below_one _ _)) hb3; clear hb3))
    have HB3 := Lib.hid hBw
    have HI := Lib.hid (Ints.own HV3.out)
    rw [HE.out] at HI
    clear HV3
    go_wp2_with fail
    go_ret
    exact ⟨⟨_, rfl, HI.out⟩, HB3.out⟩
  · rw [if_neg hc]
    have hc2 : ((checkL S : Int) != 0) = true := by simp; omega
    generalize (checkL S : Int) = ck at *
    clear hc
    clear h hw hx0
    go_enter Try.func12, Try.ntmps12
    go_wp2_with fail
    refine (HC.out _ HB0.out).mono ?_; rintro e w1 ⟨rfl, hb⟩
    have HB1 := Lib.hid (below_then HB0.out hb)
    obtain ⟨x0, x1, x2, x3⟩ := (HX.out.below hb).reads
    clear hb
    go_wp2_with fail
    go_ret
    exact ⟨⟨_, rfl, ⟨none, 0, rfl, by simp, .inl rfl⟩⟩, HB1.out⟩
theorem and_one32 {x : Int} (h0 : 0 ≤ x) (h1 : x ≤ 4294967295) : (bits .and .u32 x 1 == 1) = decide (x % 2 = 1) := by
  rw [u32_and x 1 h0 (by omega) (by decide) (by decide)]
  have e : x.toNat &&& (1 : Int).toNat = x.toNat % 2 := Nat.and_one_is_mod _
  rw [e, Bool.eq_iff_iff]
  simp
  omega
theorem div_range {m : Int} (m0 : 0 ≤ m) (m1 : m ≤ 4294967295) (k : Nat) : 0 ≤ m / 2 ^ k ∧ m / 2 ^ k ≤ 4294967295 := by
  have hp : (0 : Int) < 2 ^ k := Int.pow_pos (by decide)
  refine ⟨Int.ediv_nonneg m0 (by omega), ?_⟩
  have := Int.ediv_le_self (b := 2 ^ k) m0
  omega
set_option maxHeartbeats 4000000 in
theorem keys_any (w : World) (D I M V : Value) (S : Sc) (m : Int) (h : Sch4 w D I M V S) (hw : SWf S) (m0 : 0 ≤ m) (m1 : m ≤ 4294967295) :
    Calls Try.prog 8 #[SchV D I M V, .int .u32 m] w fun e w' => e = .returned (.tuple #[.int .u64 (if checkL S = 0 ∧ m ≤ fullL S.ds then keysL S.ds m S.ds.length else 0), .bool (decide (checkL S = 0 ∧ m ≤ fullL S.ds))]) ∧ Below w.heap.size w w' := by
  have HB0 := Lib.hid (below_one w (SchO D I M V))
  have hx0 := box_new w D I M V
  have HC := Lib.hid (fun w1 (hb : Below w.heap.size w w1) => check_any w1 D I M V S (h.below hb) hw)
  have HF := Lib.hid (fun w1 (hb : Below w.heap.size w w1) (hn : S.ds.length ≤ 6) => base_any w1 D I M V S (h.below hb) hn)
  have HX := Lib.hid hx0
  have HH := Lib.hid h
  obtain ⟨⟨a, c, rfl⟩, ⟨a2, c2, rfl⟩, ⟨a3, c3, rfl⟩, a4, c4, rfl⟩ := h.slices
  clear h hw hx0
  by_cases hc : checkL S = 0
  · rw [hc] at HC
    have hck := check_cnt hc
    have hn := (cnt_iff.1 hck.1).2.1
    have hA := andNot_full hn m0 m1
    have he : (2 : Int) ^ S.ds.length - 1 = fullL S.ds := rfl
    have he2 : (2 : Int) ^ S.ds.length = fullL S.ds + 1 := by omega
    rw [he, he2] at hA
    have hHH := HH.out.d
    obtain ⟨a', cap', e', h1, h2, h3⟩ := hHH
    obtain ⟨rfl, rfl⟩ : a = a' ∧ c = cap' := by injection e' with e1 e2 e3; exact ⟨e1, e3⟩
    have hpos := (cnt_iff.1 hck.1).1
    rcases h3 with h3 | ⟨b, off, rfl, hlt, hcell⟩
    · rw [h3] at hpos; simp at hpos
    have HCE := Lib.hid hcell
    have HKn := Lib.hid (fun k => show keysL S.ds m (k + 1) = if m / 2 ^ k % 2 = 1 then keysL S.ds m k * dz S.ds k else keysL S.ds m k from rfl)
    have HR := Lib.hid (fun k hk => And.intro (keys_range m hck.2.1 k hk) (prod_pos hck.2.1 k hk))
    have HZ := Lib.hid (fun k (hk : k < S.ds.length) => siz_get hck.2.1 hk)
    clear hcell e' he he2
    by_cases hm : m ≤ fullL S.ds
    · have e1 : checkL S = 0 ∧ m ≤ fullL S.ds := ⟨hc, hm⟩
      rw [if_pos e1, decide_eq_true e1]
      rw [decide_eq_false (by omega)] at hA
      generalize fullL S.ds = fu at *
      clear hm e1 hc hck
      go_enter Try.func8, Try.ntmps8
      go_wp2_with fail
      refine (HC.out _ HB0.out).mono ?_; rintro e w1 ⟨rfl, hb⟩
      have HB1 := Lib.hid (below_then HB0.out hb)
      obtain ⟨x0, x1, x2, x3⟩ := (HX.out.below hb).reads
      clear hb
      go_wp2_with fail
      refine (HF.out _ HB1.out hn).mono ?_; rintro e w2 ⟨rfl, hb⟩
      have HB2 := Lib.hid (below_then HB1.out hb)
      obtain ⟨y0, y1, y2, y3⟩ := quad_hold hb ⟨x0, x1, x2, x3⟩
      clear hb x0 x1 x2 x3
      go_wp2_with fail
      clear hA
      go_loopw [6, 22] (fun pv i wr => ∃ k : Nat, k ≤ S.ds.length ∧ i = .int .i64 k ∧ (∃ p : Int, pv = .int .u64 p ∧ 1 ≤ p ∧ p ≤ 1099511627776 ∧ Hid (p = keysL S.ds m k)) ∧ Hid (Below w.heap.size w wr)) (fun _ i _ => S.ds.length - (intOf i).toNat)
      case atStart => exact ⟨0, Nat.zero_le _, rfl, ⟨1, rfl, by decide, by decide, Lib.hid rfl⟩, HB2⟩
      case round =>
        obtain ⟨k, hk, rfl, ⟨p, rfl, hp0, hp1, HE⟩, HB⟩ := hrel
        by_cases hlk : k < S.ds.length
        · obtain ⟨c0, c1⟩ := HCE.out k hlk
          have c0 : wr.cell? ⟨b, off + k * 2, none⟩ = _ := (HB.out.cell (p := ⟨b, off + k * 2, none⟩) hlt).trans c0
          have c1 : wr.cell? ⟨b, off + k * 2 + 1, none⟩ = _ := (HB.out.cell (p := ⟨b, off + k * 2 + 1, none⟩) hlt).trans c1
          have HKk := Lib.hid (HKn.out k)
          have hz := HZ.out k hlk
          have hr := HR.out (k + 1) (by omega)
          have hBs := HB.out.size
          have HB1' := Lib.hid (HB.out.alloc hBs (.cells #[.string (dn S.ds k), .int .i64 (dz S.ds k)] 54))
          have hq := prod_step hp0 hp1 hz.1 hz.2.1
          have HRk := Lib.hid (show 1 ≤ keysL S.ds m (k + 1) ∧ keysL S.ds m (k + 1) ≤ 1099511627776 by omega)
          generalize dn S.ds k = x at *
          generalize dz S.ds k = z at *
          have i1 : IntKind.u64.wrap z = z := by rw [IntKind.wrap_u64]; omega
          have i2 : IntKind.u64.wrap (p * z) = p * z := by rw [IntKind.wrap_u64]; omega
          have hb1 := and_one32 (div_range m0 m1 k).1 (div_range m0 m1 k).2
          rw [← HE.out] at HKk
          have HE3 := Lib.hid hq
          clear hr hz hq
          by_cases hbit : m / 2 ^ k % 2 = 1
          · rw [decide_eq_true hbit] at hb1
            rw [if_pos hbit] at HKk
            clear hbit
            go_wp2_with fail
            go_roundw
            case rel => exact ⟨k + 1, by omega, by go_num, ⟨p * z, rfl, HE3.out.1, by rw [← HKk.out]; exact HRk.out.2, Lib.hid HKk.out.symm⟩, HB1'⟩
            case measure => simp [intOf]; omega
          · rw [decide_eq_false hbit] at hb1
            rw [if_neg hbit] at HKk
            clear hbit
            go_wp2_with fail
            go_roundw
            case rel => exact ⟨k + 1, by omega, by go_num, ⟨p, rfl, hp0, hp1, Lib.hid HKk.out.symm⟩, HB1'⟩
            case measure => simp [intOf]; omega
        · have : k = S.ds.length := by omega
          subst this
          have HE2 := Lib.hid HE.out
          clear HE
          go_wp2_with fail
          exact bodyPost_ret (v := .tuple #[.int .u64 p, .bool true]) (by simp [results, Try.results8, go_sem]) rfl ⟨by rw [HE2.out], HB.out⟩
    · have e1 : ¬ (checkL S = 0 ∧ m ≤ fullL S.ds) := fun h => hm h.2
      rw [if_neg e1, decide_eq_false e1]
      rw [decide_eq_true (by omega)] at hA
      generalize fullL S.ds = fu at *
      clear hm e1 hc hck
      go_enter Try.func8, Try.ntmps8
      go_wp2_with fail
      refine (HC.out _ HB0.out).mono ?_; rintro e w1 ⟨rfl, hb⟩
      have HB1 := Lib.hid (below_then HB0.out hb)
      obtain ⟨x0, x1, x2, x3⟩ := (HX.out.below hb).reads
      clear hb
      go_wp2_with fail
      refine (HF.out _ HB1.out hn).mono ?_; rintro e w2 ⟨rfl, hb⟩
      have HB2 := Lib.hid (below_then HB1.out hb)
      clear hb
      go_wp2_with fail
      exact bodyPost_ret (v := .tuple #[.int .u64 0, .bool false]) (by simp [results, Try.results8, go_sem]) rfl ⟨rfl, HB2.out⟩
  · have e1 : ¬ (checkL S = 0 ∧ m ≤ fullL S.ds) := fun h => hc h.1
    rw [if_neg e1, decide_eq_false e1]
    have hc2 : ((checkL S : Int) != 0) = true := by simp; omega
    generalize (checkL S : Int) = ck at *
    clear hc e1
    go_enter Try.func8, Try.ntmps8
    go_wp2_with fail
    refine (HC.out _ HB0.out).mono ?_; rintro e w1 ⟨rfl, hb⟩
    have HB1 := Lib.hid (below_then HB0.out hb)
    clear hb
    go_wp2_with fail
    exact bodyPost_ret (v := .tuple #[.int .u64 0, .bool false]) (by simp [results, Try.results8, go_sem]) rfl ⟨rfl, HB1.out⟩
end Go.Proofs.Ytdlebcjkokabjaa
