/- A slice of questions; is it small? -/
import Derived.Test.YtmganccajcpcbaaBufh
namespace Go.Proofs.Ytmganccajcpcbaa
set_option maxRecDepth 100000
open Go.RowKit
set_option linter.unusedVariables false
/-- A slice of questions: the six cells of each. -/
def Asks (w : World) (v : Value) (n : Nat) (D U I : Nat → Int) (F : Nat → Nat) (T : Nat → ByteArray) (M : Nat → Int) : Prop :=
  (∃ a cap, v = .slice a n cap ∧ n ≤ cap ∧ (n = 0 ∨ ∃ b off, a = some ⟨b, off, none⟩ ∧ b < w.heap.size ∧ ∀ k, k < n →
    w.cell? ⟨b, off + k * 6, none⟩ = some (.int .i64 (D k)) ∧ w.cell? ⟨b, off + k * 6 + 1, none⟩ = some (.int .u64 (U k)) ∧ w.cell? ⟨b, off + k * 6 + 2, none⟩ = some (.int .i64 (I k)) ∧
    w.cell? ⟨b, off + k * 6 + 3, none⟩ = some (.float .f64 (F k)) ∧ w.cell? ⟨b, off + k * 6 + 4, none⟩ = some (.string (T k)) ∧ w.cell? ⟨b, off + k * 6 + 5, none⟩ = some (.int .i64 (M k)))) ∧
  ∀ k, k < n → (∃ x : Nat, U k = x ∧ x < 18446744073709551616) ∧ (-9223372036854775808 ≤ I k ∧ I k ≤ 9223372036854775807) ∧ W64 (F k) ∧ M k ≤ 9223372036854775807 ∧ (-9223372036854775808 ≤ D k ∧ D k ≤ 9223372036854775807)
theorem Asks.below {w w' : World} {v : Value} {n : Nat} {D U I : Nat → Int} {F : Nat → Nat} {T : Nat → ByteArray} {M : Nat → Int} (h : Asks w v n D U I F T M) (hb : Below w.heap.size w w') : Asks w' v n D U I F T M := by
  obtain ⟨⟨a, cap, rfl, hc, ha⟩, hw⟩ := h
  refine ⟨⟨a, cap, rfl, hc, ha.imp id ?_⟩, hw⟩
  rintro ⟨b, off, rfl, hbl, hcell⟩
  refine ⟨b, off, rfl, Nat.lt_of_lt_of_le hbl hb.size, fun k hk => ?_⟩
  obtain ⟨h0, h1, h2, h3, h4, h5⟩ := hcell k hk
  exact ⟨cell_on hb h0, cell_on hb h1, cell_on hb h2, cell_on hb h3, cell_on hb h4, cell_on hb h5⟩
theorem Asks.cells {w : World} {a : Option Addr} {l cap n : Nat} {D U I : Nat → Int} {F : Nat → Nat} {T : Nat → ByteArray} {M : Nat → Int} (h : Asks w (.slice a l cap) n D U I F T M) {k : Nat} (hk : k < n) :
    ∃ b off, a = some ⟨b, off, none⟩ ∧ w.cell? ⟨b, off + k * 6, none⟩ = some (.int .i64 (D k)) ∧ w.cell? ⟨b, off + k * 6 + 1, none⟩ = some (.int .u64 (U k)) ∧ w.cell? ⟨b, off + k * 6 + 2, none⟩ = some (.int .i64 (I k)) ∧
    w.cell? ⟨b, off + k * 6 + 3, none⟩ = some (.float .f64 (F k)) ∧ w.cell? ⟨b, off + k * 6 + 4, none⟩ = some (.string (T k)) ∧ w.cell? ⟨b, off + k * 6 + 5, none⟩ = some (.int .i64 (M k)) := by
  obtain ⟨⟨a', cap', e, hc, ha⟩, hw⟩ := h
  simp only [Value.slice.injEq] at e
  obtain ⟨rfl, rfl, rfl⟩ := e
  rcases ha with h0 | ⟨b, off, rfl, hbl, hcell⟩
  · omega
  · exact ⟨b, off, rfl, hcell k hk⟩
def SmallP (n : Nat) (D : Nat → Int) (T : Nat → ByteArray) (w : World) (r : Ending) (w' : World) : Prop := (∃ b, r = .returned (.bool b) ∧ (b = true → n ≤ 40 ∧ ∀ k, k < n → (T k).size ≤ 200 ∧ 0 ≤ D k ∧ D k ≤ 4)) ∧ w = w'
set_option maxHeartbeats 1000000 in
theorem small_any (w : World) (v : Value) (n : Nat) (D U I : Nat → Int) (F : Nat → Nat) (T : Nat → ByteArray) (M : Nat → Int) (h : Asks w v n D U I F T M) :
    Calls Try.prog 6 #[v] w (SmallP n D T w) := by
  have HC := Lib.hid h
  obtain ⟨⟨a, cap, rfl, -, -⟩, -⟩ := h
  by_cases hn : 40 < n
  · have i1 : (40 : Int) < (n : Int) := by omega
    go_enter Try.func6, Try.ntmps6
    go_wp2_with fail
    go_ret
    exact ⟨⟨false, rfl, fun h => by cases h⟩, rfl⟩
  · have i1 : ¬ (40 : Int) < (n : Int) := by omega
    go_enter Try.func6, Try.ntmps6
    go_wp2_with fail
    go_loopw [3] (fun i wr => ∃ k : Nat, k ≤ n ∧ i = .int .i64 k ∧ Hid (∀ j, j < k → (T j).size ≤ 200 ∧ 0 ≤ D j ∧ D j ≤ 4) ∧ wr = w) (fun i _ => n - (intOf i).toNat)
    case atStart => exact ⟨0, Nat.zero_le _, rfl, Lib.hid (fun j hj => by omega), rfl⟩
    case round =>
      obtain ⟨k, hk, rfl, hS, rfl⟩ := hrel
      by_cases hlt : k < n
      · obtain ⟨b, off, rfl, c0, -, -, -, c4, -⟩ := HC.out.cells hlt
        have i2 : (k : Int) < (n : Int) := by omega
        have HS := Lib.hid (fun (g : (T k).size ≤ 200 ∧ 0 ≤ D k ∧ D k ≤ 4) => show ∀ j, j < k + 1 → (T j).size ≤ 200 ∧ 0 ≤ D j ∧ D j ≤ 4 from fun j hj => by
          by_cases e : j = k
          · subst e; exact g
          · exact hS.out j (by omega))
        generalize T k = t at *
        generalize D k = d at *
        by_cases h1 : (200 : Int) < (t.size : Int)
        · go_wp2_with fail
          go_ret
          exact ⟨⟨false, rfl, fun h => by cases h⟩, rfl⟩
        · by_cases h2 : d < 0
          · go_wp2_with fail
            go_ret
            exact ⟨⟨false, rfl, fun h => by cases h⟩, rfl⟩
          · by_cases h3 : 4 < d
            · go_wp2_with fail
              go_ret
              exact ⟨⟨false, rfl, fun h => by cases h⟩, rfl⟩
            · have HS := Lib.hid (HS.out ⟨by omega, by omega, by omega⟩)
              go_wp2_with fail
              go_roundw
              case rel => exact ⟨k + 1, by omega, by go_num, HS, by trivial⟩
              case measure => simp [intOf]; omega
      · obtain rfl : k = n := by omega
        have i2 : ¬ ((k : Nat) : Int) < (k : Nat) := by omega
        go_wp2_with fail
        go_ret
        exact ⟨⟨true, rfl, fun _ => ⟨by omega, hS.out⟩⟩, rfl⟩
end Go.Proofs.Ytmganccajcpcbaa
