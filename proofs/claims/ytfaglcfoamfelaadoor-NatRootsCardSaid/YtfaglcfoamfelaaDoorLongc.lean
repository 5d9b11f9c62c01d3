/- What the guess of package nat answers. -/
import Derived.Test.YtfaglcfoamfelaaDoorLongb
import Derived.Outline
namespace Go.Proofs.YtfaglcfoamfelaaDoor
open Go.RowKit
set_option linter.unusedVariables false
def GuessPost (u3 v2 : Int) (w : World) (e : Ending) (w' : World) : Prop := ∃ q : Int, e = .returned (.int .u32 q) ∧ Guessed u3 v2 q ∧ ∃ nd, w' = w.drewN nd
theorem u64_same {x : Int} (h0 : 0 ≤ x) (h1 : x ≤ 18446744073709551615) : IntKind.u64.wrap x = x := by rw [IntKind.wrap_u64]; omega
set_option maxHeartbeats 4000000 in
theorem guess_any (b o bv ov m c d : Nat) (pn p1 p0 h l : Int) (w : World)
    (cn : w.cell? ⟨b, o + (m + 2), none⟩ = some (.int .u32 pn)) (cp1 : w.cell? ⟨b, o + (m + 1), none⟩ = some (.int .u32 p1)) (cp0 : w.cell? ⟨b, o + m, none⟩ = some (.int .u32 p0))
    (ch : w.cell? ⟨bv, ov + (m + 1), none⟩ = some (.int .u32 h)) (cl : w.cell? ⟨bv, ov + m, none⟩ = some (.int .u32 l))
    (hm : m ≤ 1099511627776) (n0 : 0 ≤ pn) (n1 : pn ≤ h) (q0 : 0 ≤ p1) (q1 : p1 ≤ 4294967295) (z0 : 0 ≤ p0) (z1 : p0 ≤ 4294967295) (h0 : 2147483648 ≤ h) (h1 : h ≤ 4294967295) (l0 : 0 ≤ l) (l1 : l ≤ 4294967295) :
    Calls Tryd.prog 62 #[.slice (some ⟨b, o, none⟩) (m + 3) c, .slice (some ⟨bv, ov, none⟩) (m + 2) d] w (GuessPost ((pn * 4294967296 + p1) * 4294967296 + p0) (h * 4294967296 + l) w) := by
  have b1 : (0 : Int) ≤ (m : Int) := by omega
  have b2 : (0 : Int) ≤ (m : Int) + 1 := by omega
  have b3 : (0 : Int) ≤ (m : Int) + 2 := by omega
  have b4 : (m : Int) + 1 < (m : Int) + 2 := by omega
  have b5 : (m : Int) < (m : Int) + 2 := by omega
  have b6 : (m : Int) + 2 < (m : Int) + 3 := by omega
  have b7 : (m : Int) + 1 < (m : Int) + 3 := by omega
  have b8 : (m : Int) < (m : Int) + 3 := by omega
  have t1 : ((m : Int) + 1).toNat = m + 1 := by omega
  have t2 : ((m : Int) + 2).toNat = m + 2 := by omega
  have s1 : (m : Int) + 2 - 1 = (m : Int) + 1 := by omega
  have s2 : (m : Int) + 2 - 2 = (m : Int) := by omega
  have w1 : IntKind.i64.wrap ((m : Int) + 1) = (m : Int) + 1 := IntWalk.i64_in _ (by omega)
  have w2 : IntKind.i64.wrap (m : Int) = (m : Int) := IntWalk.i64_in _ (by omega)
  have u1 : IntKind.u64.wrap h = h := u64_same (by omega) (by omega)
  have u2 : IntKind.u64.wrap l = l := u64_same (by omega) (by omega)
  have u3 : IntKind.u64.wrap pn = pn := u64_same (by omega) (by omega)
  have u4 : IntKind.u64.wrap p1 = p1 := u64_same (by omega) (by omega)
  have u5 : IntKind.u64.wrap (pn * 4294967296) = pn * 4294967296 := u64_same (by omega) (by omega)
  have o1 := or_words pn p1 n0 (by omega) q0 q1
  go_enter Tryd.func62, Tryd.ntmps62
  go_wp2_with fail
  go_quiet (fail)
  go_wp2_with fail
  go_quiet (fail)
  have hH0 : 0 ≤ pn * 4294967296 + p1 := by omega
  have hHh : pn * 4294967296 + p1 ≤ h * 4294967296 + 4294967295 := by omega
  have hH1 : pn * 4294967296 + p1 ≤ 18446744073709551615 := by omega
  clear u1 u2 u3 u4 u5 o1 cn cp1 ch cl w1 t2 b3 b4 b6 b7
  have hst := Lib.hid (GuessRel.start (h := h) (l := l) (head := pn * 4294967296 + p1) (p := p0) (by omega) l0 z1 hH0)
  generalize pn * 4294967296 + p1 = H at *
  have hh0 : h ≠ 0 := by omega
  have k1 : H.tdiv h = H / h := Int.tdiv_eq_ediv_of_nonneg hH0
  have k2 : H.tmod h = H % h := Int.tmod_eq_emod_of_nonneg hH0
  have hq0 : 0 ≤ H / h := hst.out.2.1
  have hr0 : 0 ≤ H % h := hst.out.2.2.1
  have hrh : H % h < h := Int.emod_lt_of_pos H (by omega)
  have hq1 : H / h ≤ 4294967297 := by
    have e := Int.emod_add_mul_ediv H h
    by_cases g : H / h ≤ 4294967297
    · exact g
    · exfalso
      have : h * 4294967298 ≤ h * (H / h) := Int.mul_le_mul_of_nonneg_left (by omega) (by omega)
      omega
  have k3 : IntKind.u64.wrap (H / h) = H / h := u64_same (by omega) (by omega)
  have k4 : IntKind.u64.wrap (H % h) = H % h := u64_same (by omega) (by omega)
  go_wp2_with fail
  go_quiet (fail)
  clear k1 k2 k3 k4
  generalize H / h = D0 at *
  generalize H % h = R0 at *
  have hHh := Lib.hid hHh
  clear hH0 hH1
  go_wp2_with fail
  go_loopw [9, 10] (fun dv rv wr => ∃ (dd rr : Int) (nd : Nat), dv = .int .u64 dd ∧ rv = .int .u64 rr ∧ 0 ≤ dd ∧ dd ≤ 4294967297 ∧ 0 ≤ rr ∧ rr ≤ 4294967295 ∧ Hid (GuessRel h l H p0 dd rr) ∧ wr = w.drewN nd) (fun dv _ _ => (intOf dv).toNat)
  case atStart => exact ⟨D0, R0, _, rfl, rfl, hq0, hq1, hr0, by omega, hst, by simp only [World.drewN_drewN]; rfl⟩
  case round =>
    obtain ⟨dd, rr, nd, rfl, rfl, d0, d1, r0, r1, hg, rfl⟩ := hrel
    clear hst hq0 hq1 hr0 hrh
    have hmul : 0 ≤ dd * l := Int.mul_nonneg d0 l0
    have hdown := Lib.hid (fun hh => hg.out.down (by omega) hh)
    have hrh9 : rr + h ≤ 18446744073709551615 := by omega
    have hr32 : rr * 4294967296 ≤ 18446744073709551615 := by omega
    have hor := or_words rr p0 r0 r1 z0 z1
    by_cases hQ : 4294967296 ≤ dd
    · have hdq : dd / 4294967296 = 1 := by omega
      have hG := Lib.hid (hdown.out (.inl hQ) (by omega))
      clear hmul hdown hg hor
      by_cases hR : 4294967296 ≤ rr + h
      · have hrq : (rr + h) / 4294967296 = 1 := by omega
        have hE : Hid (Guessed (H * 4294967296 + p0) (h * 4294967296 + l) (dd - 1)) := Lib.hid (hG.out.stop (by
          obtain ⟨g1, _⟩ := hG.out
          by_cases e : dd ≤ 4294967296
          · omega
          · exfalso
            have e2 : dd = 4294967297 := by omega
            subst e2
            have := hHh.out
            omega) (by
          have k1 : (dd - 1) * l ≤ 4294967296 * 4294967295 := Int.mul_le_mul (by
            obtain ⟨g1, _⟩ := hG.out
            omega) l1 l0 (by omega)
          have k2 : 4294967296 * 4294967296 ≤ (rr + h) * 4294967296 := Int.mul_le_mul_of_nonneg_right hR (by omega)
          omega))
        go_wp2_with fail
        go_ret
        have hq := hE.out.2.1
        exact ⟨dd - 1, ret_int (by omega), hE.out, _, rfl⟩
      · have hrq : (rr + h) / 4294967296 = 0 := by omega
        go_wp2_with fail
        go_roundw
        case rel => exact ⟨dd - 1, rr + h, _, rfl, rfl, by omega, by omega, by omega, by omega, hG, rfl⟩
        case measure => simp [intOf]; omega
    · have hdq : dd / 4294967296 = 0 := by omega
      have hm9 : dd * l ≤ 18446744073709551615 := by
        have : dd * l ≤ 4294967295 * 4294967295 := Int.mul_le_mul (by omega) l1 l0 (by omega)
        omega
      by_cases hT : rr * 4294967296 + p0 < dd * l
      · have hd1 : 1 ≤ dd := by
          by_cases e : dd = 0
          · subst e; simp at hT; omega
          · omega
        have hG := Lib.hid (hdown.out (.inr hT) hd1)
        clear hdown hg
        by_cases hR : 4294967296 ≤ rr + h
        · have hrq : (rr + h) / 4294967296 = 1 := by omega
          have hE : Hid (Guessed (H * 4294967296 + p0) (h * 4294967296 + l) (dd - 1)) := Lib.hid (hG.out.stop (by omega) (by
            have k1 : (dd - 1) * l ≤ 4294967296 * 4294967295 := Int.mul_le_mul (by omega) l1 l0 (by omega)
            have k2 : 4294967296 * 4294967296 ≤ (rr + h) * 4294967296 := Int.mul_le_mul_of_nonneg_right hR (by omega)
            omega))
          go_wp2_with fail
          go_ret
          have hq := hE.out.2.1
          exact ⟨dd - 1, ret_int (by omega), hE.out, _, rfl⟩
        · have hrq : (rr + h) / 4294967296 = 0 := by omega
          go_wp2_with fail
          go_roundw
          case rel => exact ⟨dd - 1, rr + h, _, rfl, rfl, by omega, by omega, by omega, by omega, hG, rfl⟩
          case measure => simp [intOf]; omega
      · have hE := Lib.hid (hg.out.stop (by omega) (by omega))
        clear hdown hg
        go_wp2_with fail
        go_ret
        exact ⟨dd, ret_int (by omega), hE.out, _, rfl⟩
end Go.Proofs.YtfaglcfoamfelaaDoor
