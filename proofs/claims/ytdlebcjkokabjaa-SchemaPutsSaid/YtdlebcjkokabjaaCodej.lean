/- The reference's GetU. -/
import Derived.Test.YtdlebcjkokabjaaCodei
namespace Go.Proofs.Ytdlebcjkokabjaa
set_option maxRecDepth 100000
open Go.RowKit
set_option linter.unusedVariables false
theorem tail_cells {w : World} {h : Int} {t : List Int} {b off cap : Nat} (hv : Ints .u8 w (.slice (some ⟨b, off, none⟩) (t.length + 1) cap) (h :: t)) : ∀ i, i < t.length → w.cell? ⟨b, off + (i + 1), none⟩ = some (.int .u8 (t.getD i 0)) := fun i hi => by
  obtain ⟨a, c, e, hcc, hh⟩ := hv
  rcases hh with h0 | ⟨b', off', e', h1, hc⟩
  · cases h0
  · cases e'; cases e
    have := hc (i + 1) (by simp; omega)
    rw [List.getD_cons_succ] at this
    exact this
set_option maxHeartbeats 8000000 in
theorem rgetU_any (v : Value) (b : List Int) (w : World) (hv : Ints .u8 w v b) (hb : Bt b) (hl : b.length ≤ 1099511627775) :
    Calls Try.prog 96 #[v] w fun e w' => e = .returned (trip (getU b)) ∧ w = w' := by
  cases b with
  | nil =>
    obtain ⟨a, cap, rfl, hcap, -⟩ := hv
    go_enter Try.func96, Try.ntmps96
    go_wp2_with fail
    exact bodyPost_ret (v := .tuple #[.int .u64 0, .int .i64 0, .int .i64 5]) (by simp [results, Try.results96, go_sem]) rfl ⟨rfl, rfl⟩
  | cons h t =>
    have HBt := Lib.hid hb
    obtain ⟨h0, h255⟩ := hb.head
    obtain ⟨bb, off, cap, rfl, hcap, hbl, hcell⟩ := ints_head hv
    have HCell := Lib.hid (tail_cells hv)
    have i0 : ((t.length : Int) + 1 == 0) = false := by simp; omega
    have i1 : IntKind.i64.wrap h = h := IntWalk.i64_in _ (by omega)
    have i5 : IntKind.i64.wrap (h + 1) = h + 1 := IntWalk.i64_in _ (by omega)
    simp only [List.length_cons] at hl
    clear hb hv
    by_cases h8 : h ≤ 8
    · obtain ⟨n, rfl⟩ := Int.eq_ofNat_of_zero_le h0
      have hn8 : n ≤ 8 := by omega
      have i2 : ¬ (8 : Int) < (n : Int) := by omega
      by_cases hn : n = 0
      · subst hn
        have HE := Lib.hid (show getU (((0 : Nat) : Int) :: t) = (0, 1, 0) by rw [getU_cons, if_neg (by simp)]; rfl)
        have hcell : w.cell? ⟨bb, off, none⟩ = some (.int .u8 0) := hcell
        have i4 : ¬ (t.length : Int) + 1 < 1 := by omega
        go_enter Try.func96, Try.ntmps96
        go_wp2_with fail
        go_loopw [6, 7] (fun xv iv wr => xv = .int .u64 0 ∧ iv = .int .i64 1 ∧ w = wr) (fun _ iv _ => 0)
        case atStart => exact ⟨rfl, rfl, rfl⟩
        case round =>
          obtain ⟨rfl, rfl, rfl⟩ := hrel
          go_wp2_with fail
          exact bodyPost_ret (v := .tuple #[.int .u64 0, .int .i64 1, .int .i64 0]) (by simp [results, Try.results96, go_sem]) rfl ⟨by rw [HE.out]; rfl, by trivial⟩
      · have i3 : (0 : Int) < (n : Int) := by omega
        by_cases ht : t.length = 0
        · have HBad := Lib.hid (show ¬ (8 < (n : Int) ∨ (0 < (n : Int) ∧ t.getD 0 1 = 0)) by obtain rfl := List.length_eq_zero_iff.1 ht; simp; omega)
          have i6 : ¬ (1 : Int) < (t.length : Int) + 1 := by omega
          have hlen : t.length < n := by omega
          have HE := Lib.hid (show getU ((n : Int) :: t) = (0, 0, 5) by rw [getU_cons, if_neg HBad.out, Int.toNat_natCast, if_pos hlen])
          have i4 : (t.length : Int) + 1 < (n : Int) + 1 := by omega
          go_enter Try.func96, Try.ntmps96
          go_wp2_with fail
          exact bodyPost_ret (v := .tuple #[.int .u64 0, .int .i64 0, .int .i64 5]) (by simp [results, Try.results96, go_sem]) rfl ⟨by rw [HE.out]; rfl, by trivial⟩
        · have i6 : (1 : Int) < (t.length : Int) + 1 := by omega
          have hc1 := HCell.out 0 (by omega)
          have e1 : t.getD 0 1 = t.getD 0 0 := by simp [List.getD, List.getElem?_eq_getElem (show 0 < t.length by omega)]
          by_cases hz : t.getD 0 0 = 0
          · rw [hz] at hc1
            have HE := Lib.hid (show getU ((n : Int) :: t) = (0, 0, 6) by rw [getU_cons, if_pos (.inr ⟨i3, by rw [e1]; exact hz⟩)])
            clear hz e1
            go_enter Try.func96, Try.ntmps96
            go_wp2_with fail
            exact bodyPost_ret (v := .tuple #[.int .u64 0, .int .i64 0, .int .i64 6]) (by simp [results, Try.results96, go_sem]) rfl ⟨by rw [HE.out]; rfl, by trivial⟩
          · have HBad := Lib.hid (show ¬ (8 < (n : Int) ∨ (0 < (n : Int) ∧ t.getD 0 1 = 0)) by rw [e1]; omega)
            have i7 : (t.getD 0 0 == 0) = false := by simpa using hz
            clear hz e1
            generalize t.getD 0 0 = c0 at *
            by_cases hlen : t.length < n
            · have HE := Lib.hid (show getU ((n : Int) :: t) = (0, 0, 5) by rw [getU_cons, if_neg HBad.out, Int.toNat_natCast, if_pos hlen])
              have i4 : (t.length : Int) + 1 < (n : Int) + 1 := by omega
              go_enter Try.func96, Try.ntmps96
              go_wp2_with fail
              exact bodyPost_ret (v := .tuple #[.int .u64 0, .int .i64 0, .int .i64 5]) (by simp [results, Try.results96, go_sem]) rfl ⟨by rw [HE.out]; rfl, by trivial⟩
            · have HE := Lib.hid (show getU ((n : Int) :: t) = (fillN t 0 n, n + 1, 0) by rw [getU_cons, if_neg HBad.out, Int.toNat_natCast, if_neg hlen])
              have i4 : ¬ (t.length : Int) + 1 < (n : Int) + 1 := by omega
              go_enter Try.func96, Try.ntmps96
              go_wp2_with fail
              go_loopw [6, 7] (fun xv iv wr => ∃ k : Nat, k ≤ n ∧ xv = .int .u64 (fillN t 0 k) ∧ iv = .int .i64 ((k : Int) + 1) ∧ w = wr) (fun _ iv _ => n + 1 - (intOf iv).toNat)
              case atStart => exact ⟨0, Nat.zero_le _, rfl, rfl, rfl⟩
              case round =>
                obtain ⟨k, hk, rfl, rfl, rfl⟩ := hrel
                by_cases hlt : k < n
                · have j1 : (k : Int) + 1 ≤ (n : Int) := by omega
                  obtain ⟨p1, p2, p3, p4, p5⟩ := fill_next HBt.out.tail (f := 0) (by decide) (by decide) hlt hn8 rfl
                  have HP1 := Lib.hid p1
                  have hc := HCell.out k (by omega)
                  clear p1
                  generalize t.getD k 0 = c at *
                  generalize fillN t 0 k = x at *
                  have j2 : (k : Int) + 1 < (t.length : Int) + 1 := by omega
                  have j3 : (0 : Int) ≤ (k : Int) + 1 := by omega
                  have hw1 : IntKind.u64.wrap (x * 256) = x * 256 := by rw [IntKind.wrap_u64]; omega
                  have hw2 : IntKind.u64.wrap (x * 256 + c) = x * 256 + c := by rw [IntKind.wrap_u64]; omega
                  have hw3 : IntKind.u64.wrap c = c := by rw [IntKind.wrap_u64]; omega
                  go_wp2_with fail
                  go_roundw
                  case rel => exact ⟨k + 1, by omega, by rw [HP1.out], by go_num, by trivial⟩
                  case measure => simp [intOf] <;> omega
                · obtain rfl : k = n := by omega
                  have j1 : ¬ (k : Int) + 1 ≤ (k : Int) := by omega
                  generalize fillN t 0 k = x at *
                  go_wp2_with fail
                  exact bodyPost_ret (v := .tuple #[.int .u64 x, .int .i64 ((k : Int) + 1), .int .i64 0]) (by simp [results, Try.results96, go_sem]) rfl ⟨by rw [HE.out]; rfl, by trivial⟩
    · have i2 : (8 : Int) < h := by omega
      have HE := Lib.hid (show getU (h :: t) = (0, 0, 6) by rw [getU_cons, if_pos (.inl i2)])
      go_enter Try.func96, Try.ntmps96
      go_wp2_with fail
      exact bodyPost_ret (v := .tuple #[.int .u64 0, .int .i64 0, .int .i64 6]) (by simp [results, Try.results96, go_sem]) rfl ⟨by rw [HE.out]; rfl, by trivial⟩
end Go.Proofs.Ytdlebcjkokabjaa
