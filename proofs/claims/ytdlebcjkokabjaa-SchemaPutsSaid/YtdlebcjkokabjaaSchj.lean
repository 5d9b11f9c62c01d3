/- Layer 11: the reference's Keys, Light. -/
import Derived.Test.YtdlebcjkokabjaaSchi
namespace Go.Proofs.Ytdlebcjkokabjaa
set_option maxRecDepth 100000
open Go.RowKit
set_option linter.unusedVariables false
set_option maxHeartbeats 4000000 in
theorem rkeys_any (w : World) (D I M V : Value) (S : Sc) (m : Int) (h : Sch4 w D I M V S) (hn : S.ds.length ≤ 6) (hz : sizB S.ds = true) (m0 : 0 ≤ m) (m1 : m ≤ 4294967295) :
    Calls Try.prog 17 #[SchV D I M V, .int .u32 m] w fun e w' => e = .returned (.int .u64 (keysL S.ds m S.ds.length)) ∧ Below w.heap.size w w' := by
  have HB0 := Lib.hid (below_one w (SchO D I M V))
  have HX := Lib.hid (box_new w D I M V)
  have hd := h.d
  obtain ⟨⟨a, c, rfl⟩, ⟨a2, c2, rfl⟩, ⟨a3, c3, rfl⟩, a4, c4, rfl⟩ := h.slices
  obtain ⟨a', cap', e', h1, h2, h3⟩ := hd
  obtain ⟨rfl, rfl⟩ : a = a' ∧ c = cap' := by injection e' with e1 e2 e3; exact ⟨e1, e3⟩
  have HC := Lib.hid h3
  have HKn := Lib.hid (fun k => show keysL S.ds m (k + 1) = if m / 2 ^ k % 2 = 1 then keysL S.ds m k * dz S.ds k else keysL S.ds m k from rfl)
  have HR := Lib.hid (fun k hk => And.intro (keys_range m hz k hk) (prod_pos hz k hk))
  have HZ := Lib.hid (fun k (hk : k < S.ds.length) => siz_get hz hk)
  have HI := Lib.hid (fun w k (hk : k ≤ 31) => in_any w m k hk m0 m1)
  clear h h3 e' hz
  go_enter Try.func17, Try.ntmps17
  go_wp2_with fail
  generalize hW0 : w.alloc (SchO (.slice a S.ds.length c) (.slice a2 S.is.length c2) (.slice a3 S.ns.length c3) (.slice a4 S.vs.length c4)) = W0 at *
  go_loopw [5, 6] (fun pv i wr => ∃ k : Nat, k ≤ S.ds.length ∧ i = .int .i64 k ∧ W0 = wr ∧ ∃ p : Int, pv = .int .u64 p ∧ 1 ≤ p ∧ p ≤ 1099511627776 ∧ Hid (p = keysL S.ds m k)) (fun _ i _ => S.ds.length - (intOf i).toNat)
  case atStart => exact ⟨0, Nat.zero_le _, rfl, rfl, 1, rfl, by decide, by decide, Lib.hid rfl⟩
  case round =>
    obtain ⟨k, hk, rfl, rfl, p, rfl, hp0, hp1, HE⟩ := hrel
    obtain ⟨x0, x1, x2, x3⟩ := HX.out.reads
    by_cases hlk : k < S.ds.length
    · have hlk' : (k : Int) < (S.ds.length : Int) := by omega
      have HIk := Lib.hid (HI.out W0 k (by omega))
      have HKk := Lib.hid (HKn.out k)
      rw [← HE.out] at HKk
      by_cases hbit : m / 2 ^ k % 2 = 1
      · rcases HC.out with h3 | ⟨b, off, rfl, hlt, hc⟩
        · rw [h3] at hlk; simp at hlk
        obtain ⟨c0, c1⟩ := hc k hlk
        have c1 : W0.cell? ⟨b, off + k * 2 + 1, none⟩ = _ := (HB0.out.cell (p := ⟨b, off + k * 2 + 1, none⟩) hlt).trans c1
        have hz := HZ.out k hlk
        have hr := HR.out (k + 1) (by omega)
        have hq := prod_step hp0 hp1 hz.1 hz.2.1
        have HRk := Lib.hid (show 1 ≤ keysL S.ds m (k + 1) ∧ keysL S.ds m (k + 1) ≤ 1099511627776 by omega)
        generalize dz S.ds k = z at *
        have i1 : IntKind.u64.wrap z = z := by rw [IntKind.wrap_u64]; omega
        have i2 : IntKind.u64.wrap (p * z) = p * z := by rw [IntKind.wrap_u64]; omega
        have HE3 := Lib.hid hq
        rw [decide_eq_true hbit] at HIk
        rw [if_pos hbit] at HKk
        clear hr hz hq hbit hc c0
        go_wp2_with fail
        refine (HIk.out).mono ?_; rintro e w1 ⟨rfl, rfl⟩
        go_wp2_with fail
        go_roundw
        case rel => exact ⟨k + 1, by omega, by go_num, by trivial, p * z, rfl, HE3.out.1, by rw [← HKk.out]; exact HRk.out.2, Lib.hid HKk.out.symm⟩
        case measure => simp [intOf]; omega
      · rw [decide_eq_false hbit] at HIk
        rw [if_neg hbit] at HKk
        clear hbit
        go_wp2_with fail
        refine (HIk.out).mono ?_; rintro e w1 ⟨rfl, rfl⟩
        go_wp2_with fail
        go_roundw
        case rel => exact ⟨k + 1, by omega, by go_num, by trivial, p, rfl, hp0, hp1, Lib.hid HKk.out.symm⟩
        case measure => simp [intOf]; omega
    · have : k = S.ds.length := by omega
      subst this
      have HE2 := Lib.hid HE.out
      clear HE
      go_wp2_with fail
      go_ret
      rw [HE2.out]
      exact ⟨rfl, HB0.out⟩
def AnyB (e : Ending) : Prop := ∃ b, e = .returned (.bool b)
set_option maxHeartbeats 4000000 in
theorem light_any (w : World) (D I M V : Value) (S : Sc) (h : Sch4 w D I M V S) :
    Calls Try.prog 6 #[SchV D I M V] w fun e w' => AnyB e ∧ Below w.heap.size w w' := by
  have HB0 := Lib.hid (below_one w (SchO D I M V))
  have HX := Lib.hid (box_new w D I M V)
  have HN := Lib.hid (fun w1 (hb : Below w.heap.size w w1) hn => rnames_any w1 D I M V S (h.below hb) hn)
  obtain ⟨⟨a, c, rfl⟩, ⟨a2, c2, rfl⟩, ⟨a3, c3, rfl⟩, a4, c4, rfl⟩ := h.slices
  by_cases hl : S.ds.length ≤ 100 ∧ S.is.length ≤ 100 ∧ S.ns.length ≤ 100 ∧ S.vs.length ≤ 100
  · obtain ⟨l1, l2, l3, l4⟩ := hl
    have k1 : ¬ (100 : Int) < (S.ds.length : Int) := by omega
    have k2 : ¬ (100 : Int) < (S.is.length : Int) := by omega
    have k3 : ¬ (100 : Int) < (S.ns.length : Int) := by omega
    have k4 : ¬ (100 : Int) < (S.vs.length : Int) := by omega
    clear h
    go_enter Try.func6, Try.ntmps6
    go_wp2_with fail
    refine (HN.out _ HB0.out ⟨l1, l2, l3⟩).mono ?_; rintro e w1 ⟨⟨v, rfl, hv⟩, hb⟩
    have HS := Lib.hid (Strs.own hv)
    have HB1 := Lib.hid (below_then HB0.out hb)
    obtain ⟨pa, pl, pc, rfl⟩ := own_slice3 hv
    clear hv hb
    generalize namesL S = Z at *
    obtain ⟨a', cap', e', h1, h2, h3⟩ := HS.out
    injection e' with e1 e2 e3
    subst e1 e2 e3
    have HC := Lib.hid h3
    clear h3
    go_wp2_with fail
    go_loopw [4] (fun i wr => ∃ k : Nat, k ≤ Z.length ∧ i = .int .i64 k ∧ w1 = wr) (fun i _ => Z.length - (intOf i).toNat)
    case atStart => exact ⟨0, Nat.zero_le _, rfl, rfl⟩
    case round =>
      obtain ⟨k, hk, rfl, rfl⟩ := hrel
      by_cases hlk : k < Z.length
      · have hlk' : (k : Int) < (Z.length : Int) := by omega
        rcases HC.out with h3 | ⟨b, off, rfl, hlt, hc⟩
        · rw [h3] at hlk; simp at hlk
        have hx := hc k hlk
        generalize txt Z k = x at *
        clear hc
        by_cases hs : (100 : Int) < (x.size : Int)
        · go_wp2_with fail
          go_ret
          exact ⟨⟨_, rfl⟩, HB1.out⟩
        · go_wp2_with fail
          go_roundw
          case rel => exact ⟨k + 1, by omega, by go_num, by trivial⟩
          case measure => simp [intOf]; omega
      · have : k = Z.length := by omega
        subst this
        go_wp2_with fail
        go_ret
        exact ⟨⟨_, rfl⟩, HB1.out⟩
  · clear h
    go_enter Try.func6, Try.ntmps6
    go_wp2
    all_goals first
      | (exfalso; omega)
      | (go_ret; exact ⟨⟨_, rfl⟩, HB0.out⟩)
end Go.Proofs.Ytdlebcjkokabjaa
