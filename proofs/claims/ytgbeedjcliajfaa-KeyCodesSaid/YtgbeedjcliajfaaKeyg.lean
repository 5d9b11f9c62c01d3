/- Layer 13: the reference's Of, Codes, Down; its Sub of any two sets. -/
import Derived.Test.YtgbeedjcliajfaaKeyf
import Derived.Test.YtgbeedjcliajfaaSchm
namespace Go.Proofs.Ytgbeedjcliajfaa
set_option maxRecDepth 100000
open Go.RowKit
set_option linter.unusedVariables false
theorem rin_any (w : World) (m : Int) (n : Nat) (hn : n ≤ 31) (m0 : 0 ≤ m) (m1 : m ≤ 4294967295) :
    Calls Try.prog 13 #[.int .u32 m, .int .i64 n] w fun e w' => e = .returned (.bool (bitG m n)) ∧ w = w' := in_any w m n hn m0 m1
set_option maxHeartbeats 2000000 in
theorem rsub_any (w : World) (b a : Int) (b0 : 0 ≤ b) (b1 : b ≤ 4294967295) (a0 : 0 ≤ a) (a1 : a ≤ 4294967295) :
    Calls Try.prog 11 #[.int .u32 b, .int .u32 a] w fun e w' => e = .returned (.bool (subM b a)) ∧ w = w' := by
  have HA := Lib.hid (fun i (hi : i ≤ 31) => rin_any w b i hi b0 b1)
  have HF := Lib.hid (fun i (hi : i ≤ 31) => rin_any w a i hi a0 a1)
  have HT := Lib.hid (show (∀ k, k < 32 → bitG b k = true → bitG a k = true) → subM b a = true from fun h => List.all_eq_true.2 fun k hk => by
    by_cases hb : bitG b k = true
    · rw [h k (by simpa using hk) hb]; simp
    · rw [eq_false_of_ne_true hb]; simp)
  have HN := Lib.hid (show ∀ k, k < 32 → bitG b k = true → bitG a k = false → subM b a = false from fun k hk hb ha => List.all_eq_false.2 ⟨k, by simpa using hk, by rw [hb, ha]; decide⟩)
  generalize subM b a = r at *
  go_enter Try.func11, Try.ntmps11
  go_wp2
  go_loopw [5] (fun i wr => ∃ k : Nat, k ≤ 32 ∧ i = .int .i64 k ∧ w = wr ∧ Hid (∀ j, j < k → bitG b j = true → bitG a j = true)) (fun i _ => 32 - (intOf i).toNat)
  case atStart => exact ⟨0, Nat.zero_le _, rfl, rfl, Lib.hid (fun j hj => by omega)⟩
  case round =>
    obtain ⟨k, hk, rfl, rfl, HJ⟩ := hrel
    by_cases hlk : k < 32
    · have hlk' : (k : Int) < 32 := by omega
      have HAk := Lib.hid (HA.out k (by omega))
      have HFk := Lib.hid (HF.out k (by omega))
      by_cases h1 : bitG b k = true
      · rw [h1] at HAk
        by_cases h2 : bitG a k = true
        · rw [h2] at HFk
          have HJ2 := Lib.hid (show ∀ j, j < k + 1 → bitG b j = true → bitG a j = true from fun j hj hb => if e : j = k then e ▸ h2 else HJ.out j (by omega) hb)
          clear h1 h2
          go_wp2_with fail
          refine (HAk.out).mono ?_; rintro e w1 ⟨rfl, rfl⟩
          go_wp2_with fail
          refine (HFk.out).mono ?_; rintro e w1 ⟨rfl, rfl⟩
          go_wp2_with fail
          go_roundw
          case rel => exact ⟨k + 1, by omega, by go_num, by trivial, HJ2⟩
          case measure => simp [intOf]; omega
        · have hR := HN.out k hlk h1 (eq_false_of_ne_true h2)
          subst hR
          rw [eq_false_of_ne_true h2] at HFk
          clear h1 h2
          go_wp2_with fail
          refine (HAk.out).mono ?_; rintro e w1 ⟨rfl, rfl⟩
          go_wp2_with fail
          refine (HFk.out).mono ?_; rintro e w1 ⟨rfl, rfl⟩
          go_wp2_with fail
          go_ret
          exact ⟨rfl, rfl⟩
      · rw [eq_false_of_ne_true h1] at HAk
        have HJ2 := Lib.hid (show ∀ j, j < k + 1 → bitG b j = true → bitG a j = true from fun j hj hb => if e : j = k then absurd (e ▸ hb) h1 else HJ.out j (by omega) hb)
        clear h1
        go_wp2_with fail
        refine (HAk.out).mono ?_; rintro e w1 ⟨rfl, rfl⟩
        go_wp2_with fail
        go_roundw
        case rel => exact ⟨k + 1, by omega, by go_num, by trivial, HJ2⟩
        case measure => simp [intOf]; omega
    · have : k = 32 := by omega
      subst this
      have hR := HT.out HJ.out
      subst hR
      go_wp2_with fail
      go_ret
      exact ⟨rfl, rfl⟩
set_option maxHeartbeats 4000000 in
theorem rof_any (w : World) (D I M V u : Value) (S : Sc) (m : Int) (l : List Int) (h : Sch4 w D I M V S) (hu : Ints .i64 w u l) (hn : S.ds.length ≤ 31) (hl : l.length = S.ds.length) (hz : sizB S.ds = true) (hc : InG (dz S.ds) (cz l) (bitG m) S.ds.length) (m0 : 0 ≤ m) (m1 : m ≤ 4294967295) :
    Calls Try.prog 15 #[SchV D I M V, .int .u32 m, u] w fun e w' => e = .returned (.int .u64 (keyG (dz S.ds) (cz l) (bitG m) S.ds.length)) ∧ Below w.heap.size w w' := by
  have HB0 := Lib.hid (below_one w (SchO D I M V))
  have HX := Lib.hid (box_new w D I M V)
  have hd := h.d
  obtain ⟨⟨a, c, rfl⟩, ⟨a2, c2, rfl⟩, ⟨a3, c3, rfl⟩, a4, c4, rfl⟩ := h.slices
  obtain ⟨pu, cu, rfl, hcu, -⟩ := id hu
  have HU := Lib.hid hu
  obtain ⟨a', cap', e', h1, h2, h3⟩ := hd
  obtain ⟨rfl, rfl⟩ : a = a' ∧ c = cap' := by injection e' with e1 e2 e3; exact ⟨e1, e3⟩
  have HC := Lib.hid h3
  have HI := Lib.hid hc
  have HKn := Lib.hid (fun k => show keyG (dz S.ds) (cz l) (bitG m) (k + 1) = if bitG m k = true then keyG (dz S.ds) (cz l) (bitG m) k * dz S.ds k + cz l k else keyG (dz S.ds) (cz l) (bitG m) k from rfl)
  have HR := Lib.hid (key_step hz hc)
  have HZ := Lib.hid (fun k (hk : k < S.ds.length) => siz_get hz hk)
  have HH := Lib.hid (fun w k hk => rin_any w m k hk m0 m1)
  rw [hl] at hcu HU
  rw [hl]
  clear h h3 e' hz hc hu
  go_enter Try.func15, Try.ntmps15
  go_wp2_with fail
  generalize hW0 : w.alloc (SchO (.slice a S.ds.length c) (.slice a2 S.is.length c2) (.slice a3 S.ns.length c3) (.slice a4 S.vs.length c4)) = W0 at *
  clear hW0
  go_loopw [7, 8] (fun pv i wr => ∃ k : Nat, k ≤ S.ds.length ∧ i = .int .i64 k ∧ (∃ p : Int, pv = .int .u64 p ∧ 0 ≤ p ∧ p ≤ 1099511627776 ∧ Hid (p = keyG (dz S.ds) (cz l) (bitG m) k)) ∧ Hid (Below w.heap.size w wr ∧ Box wr w.heap.size (.slice a S.ds.length c) (.slice a2 S.is.length c2) (.slice a3 S.ns.length c3) (.slice a4 S.vs.length c4))) (fun _ i _ => S.ds.length - (intOf i).toNat)
  case atStart => exact ⟨0, Nat.zero_le _, rfl, ⟨0, rfl, by decide, by decide, Lib.hid rfl⟩, Lib.hid ⟨HB0.out, HX.out⟩⟩
  case round =>
    obtain ⟨k, hk, rfl, ⟨p, rfl, hp0, hp1, HE⟩, HB⟩ := hrel
    obtain ⟨x0, x1, x2, x3⟩ := HB.out.2.reads
    by_cases hlk : k < S.ds.length
    · rcases HC.out with h3 | ⟨b, off, rfl, hlt, hcell⟩
      · rw [h3] at hlk; simp at hlk
      obtain ⟨c0, c1⟩ := hcell k hlk
      have c1 : wr.cell? ⟨b, off + k * 2 + 1, none⟩ = _ := (HB.out.1.cell (p := ⟨b, off + k * 2 + 1, none⟩) hlt).trans c1
      obtain ⟨b2, o2, hp2, hb2, hc2⟩ := HU.out.cell (i := k) (by omega)
      subst hp2
      have hc2 := cell_later HB.out.1 hc2
      have hc3 : wr.cell? ⟨b2, o2 + k, none⟩ = some (.int .i64 (cz l k)) := hc2
      have HKk := Lib.hid (HKn.out k)
      have hz := HZ.out k hlk
      have hr := HR.out (k + 1) (by omega)
      have hI := HI.out k hlk
      have HHk := Lib.hid (fun w => HH.out w k (by omega))
      have hle : Hid (k + 1 ≤ S.ds.length) := Lib.hid (by omega)
      have hlk' : (k : Int) < (S.ds.length : Int) := by omega
      rw [← HE.out] at HKk
      clear hc2 c0 hcell
      generalize dz S.ds k = z at *
      generalize cz l k = y at *
      by_cases hbit : bitG m k = true
      · obtain ⟨y0, y1⟩ := hI hbit
        rw [hbit] at HHk
        rw [if_pos hbit] at HKk
        have hpz : 0 ≤ p * z := Int.mul_nonneg hp0 (by omega)
        rw [HKk.out] at hr
        have i1 : IntKind.u64.wrap z = z := by rw [IntKind.wrap_u64]; omega
        have i2 : IntKind.u64.wrap (p * z) = p * z := by rw [IntKind.wrap_u64]; omega
        have i3 : IntKind.u64.wrap y = y := by rw [IntKind.wrap_u64]; omega
        have i4 : IntKind.u64.wrap (p * z + y) = p * z + y := by rw [IntKind.wrap_u64]; omega
        have HE3 := Lib.hid hr
        clear hr hz hpz hI hbit y0 y1
        go_wp2_with fail
        refine (HHk.out _).mono ?_; rintro e w1 ⟨rfl, rfl⟩
        go_upto_region 6 with fail
        go_quiet (fail)
        have HB2 := Lib.hid (And.intro (below_drewN HB.out.1 nq) (show Box (wr.drewN nq) w.heap.size _ _ _ _ from HB.out.2))
        go_wp2
        go_roundw
        case rel => exact ⟨k + 1, hle.out, by go_num, ⟨p * z + y, rfl, HE3.out.1, HE3.out.2, Lib.hid HKk.out.symm⟩, HB2⟩
        case measure => simp [intOf]; omega
      · rw [eq_false_of_ne_true hbit] at HHk
        rw [if_neg hbit] at HKk
        clear hr hz hI hbit hc3 c1
        go_wp2_with fail
        refine (HHk.out _).mono ?_; rintro e w1 ⟨rfl, rfl⟩
        go_wp2_with fail
        go_roundw
        case rel => exact ⟨k + 1, hle.out, by go_num, ⟨p, rfl, hp0, hp1, Lib.hid HKk.out.symm⟩, HB⟩
        case measure => simp [intOf]; omega
    · have : k = S.ds.length := by omega
      subst this
      have HE2 := Lib.hid HE.out
      clear HE
      go_wp2_with fail
      go_ret
      rw [HE2.out]
      exact ⟨rfl, HB.out.1⟩
end Go.Proofs.Ytgbeedjcliajfaa
