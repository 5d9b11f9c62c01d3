/- What takeTimes and giveBack of package nat do to the words from a place on. -/
import Derived.Test.YtfaglcfoamfelaaDoorLonga
import Derived.Test.YtfaglcfoamfelaaDoorNatp
import Derived.Deep.RegionWith
import Derived.Deep.QuietTactic
import Derived.BigQuiet
namespace Go.Proofs.YtfaglcfoamfelaaDoor
open Go.RowKit
set_option linter.unusedVariables false
/-- The row behind the call: S. -/
def RowPost (B g cap : Nat) (S : List Int) (w w' : World) : Prop := WRow w' B g cap S ∧ Wd S ∧ Only g w w'
def TakePost (B g cap k : Nat) (R V : List Int) (q : Int) (w : World) (e : Ending) (w' : World) : Prop :=
  ∃ (S : List Int) (b : Bool), e = .returned (.bool b) ∧ RowPost B g cap S w w' ∧ Out R S k (V.length + 1) ∧ sgN S k (V.length + 1) = sgN R k (V.length + 1) - q * wv V + 4294967296 ^ (V.length + 1) * (bif b then 1 else 0)
set_option maxHeartbeats 2000000 in
theorem take_any (B g cap k : Nat) (R : List Int) (v : Value) (V : List Int) (q : Int) (c : Nat) (w : World) (hr : WRow w B g cap R) (hR : Wd R) (hv : WList w v V) (hfar : ∀ b o l d, v = .slice (some ⟨b, o, none⟩) l d → b ≠ g) (hk : k + V.length < R.length) (lV : V.length ≤ 1099511627775) (q0 : 0 ≤ q) (q1 : q ≤ 4294967295) (hc : V.length + 1 ≤ c) :
    Calls Tryd.prog 63 #[.slice (some ⟨g, k, none⟩) (V.length + 1) c, v, .int .u32 q] w (TakePost B g cap k R V q w) := by
  obtain ⟨p, d, rfl⟩ := hv.shape
  have HV := Lib.hid hv
  have HF := Lib.hid hfar
  have hg := hr.facts.1
  have HK := Lib.hid hk
  have hR0 := Lib.hid (And.intro (TakeRel.start V k q hR) (And.intro hr (Only.refl g w)))
  clear hv hfar hr hR
  go_enter Tryd.func63, Tryd.ntmps63
  go_wp2_with fail
  go_loopw [7, 8, 13] (fun cv bv i wr => ∃ (m : Nat) (S : List Int) (cy br : Int), m ≤ V.length ∧ i = .int .i64 m ∧ cv = .int .u64 cy ∧ bv = .int .u32 br ∧ Hid (TakeRel R V k q m S cy br ∧ WRow wr B g cap S ∧ Only g w wr)) (fun _ _ i _ => V.length - (intOf i).toNat)
  case atStart => exact ⟨0, R, 0, 0, Nat.zero_le _, rfl, rfl, rfl, hR0⟩
  case round =>
    obtain ⟨m, S, cy, br, hm, rfl, rfl, rfl, hS⟩ := hrel
    clear hR0
    obtain ⟨_, _, _, _, c0, c1, b0, b1⟩ := hS.out.1
    have hlen : Hid (S.length = R.length) := Lib.hid hS.out.1.2.2.1.1
    by_cases hlt : m < V.length
    · obtain ⟨ho1, ho2⟩ := hS.out.2.1.facts.2.2.2.2 (k + m) (by have := hlen.out; have := HK.out; omega)
      obtain ⟨b2, o2, hp2, hb2, hc2⟩ := HV.out.1.cell (i := m) hlt
      subst hp2
      have hc2 : wr.cell? ⟨b2, o2 + m, none⟩ = some (.int .u32 (V.getD m 0)) := by
        rw [World.cell?_of_block (w := w) (w' := wr) (hS.out.2.2.2.2.2.2 b2 (HF.out _ _ _ _ rfl))]; exact hc2
      have dx := hS.out.1.2.1.getD (k + m)
      have dv := HV.out.2.1.getD m
      have hst := Lib.hid (fun (x v : Int) (hx : S.getD (k + m) 0 = x) (hv : V.getD m 0 = v) => hS.out.1.step HV.out.2.1 hlt HK.out q0 q1 x v hx hv)
      generalize S.getD (k + m) 0 = x at *
      generalize V.getD m 0 = v at *
      have hst2 := Lib.hid (hst.out x v rfl rfl)
      have hSS := Lib.hid (fun (z : Int) => And.intro (hS.out.2.1.set (k + m) z) (hS.out.2.2.set (k + m) (.int .u32 z)))
      have hpb := prod_bounds dv.1 dv.2 q0 q1 c0 c1
      have hvq : 0 ≤ v * q := Int.mul_nonneg dv.1 q0
      obtain ⟨x0, x9⟩ := dx
      obtain ⟨v0, v9⟩ := dv
      obtain ⟨t0, t9⟩ := hpb
      have ht9 : cy + v * q ≤ 18446744073709551615 := by omega
      have hvq9 : v * q ≤ 18446744073709551615 := by omega
      have hSb := Lib.hid (fun w1 => sub32_any x ((cy + v * q) % 4294967296) br x0 x9 (by omega) (by omega) b0 b1 w1)
      clear hst hS hb2
      go_wp2_with (go_at_call 48; refine (hSb.out _).mono ?_; rintro e w' ⟨rfl, rfl⟩)
      go_roundw
      case rel => exact ⟨m + 1, _, _, _, by omega, by go_num, rfl, rfl, Lib.hid ⟨hst2.out, hSS.out _⟩⟩
      case measure => simp [intOf]; omega
    · obtain rfl : m = V.length := by omega
      obtain ⟨ho1, ho2⟩ := hS.out.2.1.facts.2.2.2.2 (k + V.length) (by have := hlen.out; have := HK.out; omega)
      have dx := hS.out.1.2.1.getD (k + V.length)
      have hst := Lib.hid (fun (x : Int) (hx : S.getD (k + V.length) 0 = x) => hS.out.1.stop HK.out x hx)
      generalize S.getD (k + V.length) 0 = x at *
      have hst2 := Lib.hid (hst.out x rfl)
      obtain ⟨x0, x9⟩ := dx
      have hSS := Lib.hid (fun (z : Int) => And.intro (hS.out.2.1.set (k + V.length) z) (hS.out.2.2.set (k + V.length) (.int .u32 z)))
      have hSb := Lib.hid (fun w1 => sub32_any x cy br x0 x9 c0 c1 b0 b1 w1)
      have hbb : -((x - cy - br) / 4294967296) = 0 ∨ -((x - cy - br) / 4294967296) = 1 := by omega
      generalize hnb : -((x - cy - br) / 4294967296) = nb at *
      generalize (x - cy - br) % 4294967296 = nd at *
      clear hst hS
      rcases hbb with rfl | rfl
      · go_wp2_with (go_at_call 48; refine (hSb.out _).mono ?_; rintro e w' ⟨rfl, rfl⟩)
        go_ret
        exact ⟨_, false, rfl, ⟨(hSS.out _).1, hst2.out.2.1, (hSS.out _).2⟩, hst2.out.2.2, hst2.out.1⟩
      · go_wp2_with (go_at_call 48; refine (hSb.out _).mono ?_; rintro e w' ⟨rfl, rfl⟩)
        go_ret
        exact ⟨_, true, rfl, ⟨(hSS.out _).1, hst2.out.2.1, (hSS.out _).2⟩, hst2.out.2.2, hst2.out.1⟩
def GivePost (B g cap k : Nat) (R V : List Int) (w : World) (e : Ending) (w' : World) : Prop :=
  ∃ (S : List Int) (t : Int), e = .returned (.tuple #[]) ∧ RowPost B g cap S w w' ∧ Out R S k (V.length + 1) ∧ sgN S k (V.length + 1) = sgN R k (V.length + 1) + wv V - 4294967296 ^ (V.length + 1) * t
theorem add32_same (x y c : Int) (x0 : 0 ≤ x) (x1 : x ≤ 4294967295) (y0 : 0 ≤ y) (y1 : y ≤ 4294967295) (c0 : 0 ≤ c) (c1 : c ≤ 4294967295) (w : World) :
    Calls Tryd.prog 50 #[.int .u32 x, .int .u32 y, .int .u32 c] w fun e w' => e = .returned (.tuple #[.int .u32 ((x + y + c) % 4294967296), .int .u32 ((x + y + c) / 4294967296)]) ∧ w = w' := add32_any x y c x0 x1 y0 y1 c0 c1 w
set_option maxHeartbeats 2000000 in
theorem give_any (B g cap k : Nat) (R : List Int) (v : Value) (V : List Int) (c : Nat) (w : World) (hr : WRow w B g cap R) (hR : Wd R) (hv : WList w v V) (hfar : ∀ b o l d, v = .slice (some ⟨b, o, none⟩) l d → b ≠ g) (hk : k + V.length < R.length) (lV : V.length ≤ 1099511627775) (hc : V.length + 1 ≤ c) :
    Calls Tryd.prog 64 #[.slice (some ⟨g, k, none⟩) (V.length + 1) c, v] w (GivePost B g cap k R V w) := by
  obtain ⟨p, d, rfl⟩ := hv.shape
  have HV := Lib.hid hv
  have HF := Lib.hid hfar
  have HK := Lib.hid hk
  have hR0 := Lib.hid (And.intro (GiveRel.start V k hR) (And.intro hr (Only.refl g w)))
  clear hv hfar hr hR
  go_enter Tryd.func64, Tryd.ntmps64
  go_wp2_with fail
  go_loopw [4, 8] (fun cv i wr => ∃ (m : Nat) (S : List Int) (cy : Int), m ≤ V.length ∧ i = .int .i64 m ∧ cv = .int .u32 cy ∧ Hid (GiveRel R V k m S cy ∧ WRow wr B g cap S ∧ Only g w wr)) (fun _ i _ => V.length - (intOf i).toNat)
  case atStart => exact ⟨0, R, 0, Nat.zero_le _, rfl, rfl, hR0⟩
  case round =>
    obtain ⟨m, S, cy, hm, rfl, rfl, hS⟩ := hrel
    clear hR0
    obtain ⟨_, _, _, _, c0, c1⟩ := hS.out.1
    have hlen : Hid (S.length = R.length) := Lib.hid hS.out.1.2.2.1.1
    by_cases hlt : m < V.length
    · obtain ⟨ho1, ho2⟩ := hS.out.2.1.facts.2.2.2.2 (k + m) (by have := hlen.out; have := HK.out; omega)
      obtain ⟨b2, o2, hp2, hb2, hc2⟩ := HV.out.1.cell (i := m) hlt
      subst hp2
      have hc2 : wr.cell? ⟨b2, o2 + m, none⟩ = some (.int .u32 (V.getD m 0)) := by
        rw [World.cell?_of_block (w := w) (w' := wr) (hS.out.2.2.2.2.2.2 b2 (HF.out _ _ _ _ rfl))]; exact hc2
      have dx := hS.out.1.2.1.getD (k + m)
      have dv := HV.out.2.1.getD m
      have hst := Lib.hid (fun (x v : Int) (hx : S.getD (k + m) 0 = x) (hv : V.getD m 0 = v) => hS.out.1.step HV.out.2.1 hlt HK.out x v hx hv)
      generalize S.getD (k + m) 0 = x at *
      generalize V.getD m 0 = v at *
      have hst2 := Lib.hid (hst.out x v rfl rfl)
      have hSS := Lib.hid (fun (n : Nat) (z : Int) => And.intro ((hS.out.2.1.drewN n).set (k + m) z) ((hS.out.2.2.drewN n).set (k + m) (.int .u32 z)))
      obtain ⟨x0, x9⟩ := dx
      obtain ⟨v0, v9⟩ := dv
      have hi0 : (0 : Int) ≤ (m : Int) := by omega
      have hi1 : (m : Int) < (V.length : Int) := by omega
      have hi2 : (m : Int) < (V.length : Int) + 1 := by omega
      have hSb := Lib.hid (fun w1 => add32_same x v cy x0 x9 v0 v9 c0 (by omega) w1)
      clear hst hS hb2
      go_wp2_with fail
      go_region_with (go_at_call 50; refine (hSb.out _).mono ?_; rintro e w' ⟨rfl, rfl⟩)
      all_goals
        go_wp2_with fail
        go_roundw
        case rel => exact ⟨m + 1, _, _, by omega, by go_num, rfl, Lib.hid ⟨hst2.out, hSS.out 1 _⟩⟩
        case measure => simp [intOf]; omega
    · obtain rfl : m = V.length := by omega
      obtain ⟨ho1, ho2⟩ := hS.out.2.1.facts.2.2.2.2 (k + V.length) (by have := hlen.out; have := HK.out; omega)
      have dx := hS.out.1.2.1.getD (k + V.length)
      have hst := Lib.hid (fun (x : Int) (hx : S.getD (k + V.length) 0 = x) => hS.out.1.stop HK.out x hx)
      generalize S.getD (k + V.length) 0 = x at *
      have hst2 := Lib.hid (hst.out x rfl)
      obtain ⟨x0, x9⟩ := dx
      have hSS := Lib.hid (fun (z : Int) => And.intro (hS.out.2.1.set (k + V.length) z) (hS.out.2.2.set (k + V.length) (.int .u32 z)))
      clear hst hS
      go_wp2_with fail
      go_end0
      obtain ⟨⟨t, ht⟩, h2, h3⟩ := hst2.out
      exact ⟨_, t, rfl, ⟨(hSS.out _).1, h2, (hSS.out _).2⟩, h3, ht⟩
end Go.Proofs.YtfaglcfoamfelaaDoor
