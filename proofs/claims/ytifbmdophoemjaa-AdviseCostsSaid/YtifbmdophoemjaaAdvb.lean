/- Layer 18: the program's table of least sizes: from the base, with one view more, its sum, what a view would save, which one saves most. -/
import Derived.Test.YtifbmdophoemjaaAdvk
namespace Go.Proofs.Ytifbmdophoemjaa
set_option maxRecDepth 100000
open Go.RowKit
set_option linter.unusedVariables false
/-- Block B holds how large the smallest of the views is for each set. -/
def TabL (s : List Int) (vs : List Nat) (L : List Int) : Prop := L.length = s.length ∧ ∀ i, i < s.length → L.getD i 0 = leastN s vs i
def TabR (w : World) (B : Nat) (s : List Int) (vs : List Nat) : Prop := ∃ L, RowE w B 2 (intsE L) ∧ TabL s vs L
theorem TabR.keep {w w' : World} {B : Nat} {s : List Int} {vs : List Nat} (h : TabR w B s vs) (hb : Below w.heap.size w w') : TabR w' B s vs := by
  obtain ⟨L, h1, h2⟩ := h
  exact ⟨L, h1.keep hb, h2⟩
theorem TabR.at {w : World} {B : Nat} {s : List Int} {vs : List Nat} (h : TabR w B s vs) {i : Nat} (hi : i < s.length) : w.cell? ⟨B, i, none⟩ = some (.int .i64 (leastN s vs i)) ∧ w.frozen? ⟨B, i, none⟩ = false := by
  obtain ⟨L, h1, h2, h3⟩ := h
  have h4 := h1.at (i := i) (by rw [intsE_len]; omega)
  rw [intsE_get L (by omega), h3 i hi] at h4
  exact h4
set_option maxHeartbeats 4000000 in
theorem pbase_any (w : World) (v : Value) (s : List Int) (h : Szs w v s) (h0 : 0 < s.length) (hl : s.length ≤ 1000) :
    Calls Try.prog 15 #[v] w fun e w' => (e = .returned (.slice (some ⟨w.heap.size, 0, none⟩) s.length s.length) ∧ TabR w' w.heap.size s []) ∧ Below w.heap.size w w' := by
  obtain ⟨i0, hi, hz0, hz1, hz2⟩ := info_parts infoL18
  have HZ := Lib.hid h
  obtain ⟨q, qc, rfl⟩ := h.len
  have HBs := Lib.hid (show baseN s = s.getD (s.length - 1) 0 from rfl)
  have hm0 : (0 : Int) ≤ (s.length : Int) - 1 := by omega
  have hm1 : (s.length : Int) - 1 < (s.length : Int) := by omega
  have hm2 : ((s.length : Int) - 1).toNat = s.length - 1 := by omega
  have hmw : IntKind.i64.wrap ((s.length : Int) - 1) = (s.length : Int) - 1 := IntWalk.i64_in _ (by omega)
  have hmw2 : wrap64 ((s.length : Int) - 1) = (s.length : Int) - 1 := wrap64_in (by omega) (by omega)
  clear h
  go_enter Try.func15, Try.ntmps15
  go_wp2_with (at_make; refine wpList_make_full _ rfl _ _ 40 rfl w.heap.size 2 i0 (.int .i64 0) 1 Try.underlying40 hi hz0 hz1 .i64 .i64 _ _ s.length rfl rfl rfl rfl (by rw [hz2]; omega) (by unfold maxLen; omega) (Nat.le_refl _) ?_; intro w1 hown hgrow; have HR0 := Lib.hid (rowE_made hown); have HB0 := Lib.hid (show Below w.heap.size w w1 from ⟨hgrow.os, hgrow.tape, hgrow.output, hgrow.size, fun j hj => hgrow.block j hj (by simp)⟩); clear hown hgrow)
  go_loopw [10] (fun iv wr => ∃ k : Nat, k ≤ s.length ∧ iv = .int .i64 k ∧ Hid (∃ L : List Int, L.length = s.length ∧ RowE wr w.heap.size 2 (intsE L) ∧ ∀ j, j < k → L.getD j 0 = baseN s) ∧ Hid (Below w.heap.size w wr)) (fun iv _ => s.length - (intOf iv).toNat)
  case atStart => exact ⟨0, Nat.zero_le _, rfl, Lib.hid ⟨List.replicate s.length 0, List.length_replicate, by rw [← intsE_zero]; exact HR0.out, fun j hj => by omega⟩, HB0⟩
  case round =>
    obtain ⟨k, hk, rfl, HJ, HW⟩ := hrel
    by_cases hlt : k < s.length
    · have hlt' : (k : Int) < (s.length : Int) := by omega
      obtain ⟨b0, off, rfl, -, hc0⟩ := (HZ.out.below HW.out).cell (i := s.length - 1) (by omega)
      obtain ⟨L, hLl, hrow, hL⟩ := HJ.out
      have hat := hrow.at (i := k) (by rw [intsE_len]; omega)
      rw [intsE_get L (by omega)] at hat
      obtain ⟨hc1, hf1⟩ := hat
      have HI := Lib.hid (And.intro hLl (And.intro hrow hL))
      rw [← HBs.out] at hc0
      clear hLl hrow hL HJ
      generalize baseN s = b at *
      generalize L.getD k 0 = z0 at *
      have HJ2 := Lib.hid (show ∃ L : List Int, L.length = s.length ∧ RowE (wr.setCell ⟨w.heap.size, k, none⟩ (.int .i64 b)) w.heap.size 2 (intsE L) ∧ ∀ j, j < k + 1 → L.getD j 0 = b from
        ⟨L.set k b, by rw [List.length_set]; exact HI.out.1, by rw [← intsE_set]; exact HI.out.2.1.set _, fun j hj => by
          rw [getD_setI L k b j (by rw [HI.out.1]; exact hlt)]
          by_cases e : j = k
          · rw [if_pos e]
          · rw [if_neg e]; exact HI.out.2.2 j (by omega)⟩)
      have HW3 := Lib.hid (HW.out.setCell (p := ⟨w.heap.size, k, none⟩) (Nat.le_refl _) (.int .i64 b))
      clear HI HW HBs
      go_wp2_with fail
      go_roundw
      case rel => exact ⟨k + 1, by omega, by go_num, HJ2, HW3⟩
      case measure => simp [intOf]; omega
    · have hkn : k = s.length := by omega
      subst hkn
      have hlt' : ¬ (s.length : Int) < (s.length : Int) := by omega
      obtain ⟨L, hLl, hrow, hL⟩ := HJ.out
      have HI := Lib.hid (show TabR wr w.heap.size s [] from ⟨L, hrow, hLl, hL⟩)
      clear hLl hrow hL HJ
      go_wp2_with fail
      go_ret
      exact ⟨⟨rfl, HI.out⟩, HW.out⟩
theorem u32_small {k : Nat} (h : k < 4294967296) : IntKind.u32.wrap (k : Int) = (k : Int) := by rw [IntKind.wrap_u32]; omega
/-- The table while a view is taken in: the first k have seen it. -/
def MidL (s : List Int) (vs : List Nat) (v k : Nat) (L : List Int) : Prop := L.length = s.length ∧ (∀ i, i < k → L.getD i 0 = leastN s (vs ++ [v]) i) ∧ ∀ i, k ≤ i → i < s.length → L.getD i 0 = leastN s vs i
theorem MidL.start {s : List Int} {vs : List Nat} {v : Nat} {L : List Int} (h : TabL s vs L) : MidL s vs v 0 L := ⟨h.1, fun i hi => by omega, fun i _ hi => h.2 i hi⟩
theorem MidL.stop {s : List Int} {vs : List Nat} {v : Nat} {L : List Int} (h : MidL s vs v s.length L) : TabL s (vs ++ [v]) L := ⟨h.1, fun i hi => h.2.1 i hi⟩
theorem MidL.skip {s : List Int} {vs : List Nat} {v k : Nat} {L : List Int} (h : MidL s vs v k L) (hs : subN k v = false) (hk : k < s.length) : MidL s vs v (k + 1) L :=
  ⟨h.1, fun i hi => by
    by_cases e : i = k
    · subst e
      rw [h.2.2 i (Nat.le_refl _) hk, least_snoc, hs]
      rfl
    · exact h.2.1 i (by omega), fun i h1 h2 => h.2.2 i (by omega) h2⟩
/-- The smaller one, as the model has it. -/
def minI (x y : Int) : Int := if y < x then y else x
theorem minI_is (x y : Int) : minI x y = min x y := by unfold minI; split <;> omega
theorem MidL.take {s : List Int} {vs : List Nat} {v k : Nat} {L : List Int} (h : MidL s vs v k L) (hs : subN k v = true) (hk : k < s.length) : MidL s vs v (k + 1) (L.set k (minI (leastN s vs k) (s.getD v 0))) := by
  have hkl : k < L.length := by rw [h.1]; exact hk
  refine ⟨by rw [List.length_set]; exact h.1, fun i hi => ?_, fun i h1 h2 => ?_⟩
  · rw [getD_setI L k _ i hkl]
    by_cases e : i = k
    · subst e
      rw [if_pos rfl, least_snoc, if_pos hs, minI_is]
    · rw [if_neg e]
      exact h.2.1 i (by omega)
  · rw [getD_setI L k _ i hkl, if_neg (by omega)]
    exact h.2.2 i (by omega) h2
def AddP (w : World) (B : Nat) (s : List Int) (vs : List Nat) (v : Nat) (e : Ending) (w' : World) : Prop := e = .returned (.tuple #[]) ∧ TabR w' B s (vs ++ [v]) ∧ w.grownBy w' (some B)
set_option maxHeartbeats 4000000 in
theorem padd_any (w : World) (B : Nat) (s : List Int) (vs : List Nat) (v : Nat) (h : TabR w B s vs) (hv : v < s.length) (hl : s.length ≤ 64) :
    Calls Try.prog 16 #[.slice (some ⟨B, 0, none⟩) s.length s.length, .int .u32 v, .int .i64 (s.getD v 0)] w (AddP w B s vs v) := by
  obtain ⟨hcv, hfv⟩ := h.at hv
  have hv' : (v : Int) < (s.length : Int) := by omega
  by_cases hge : leastN s vs v ≤ s.getD v 0
  · have HE := Lib.hid (show TabR w B s (vs ++ [v]) from by
      obtain ⟨L, h1, h2, h3⟩ := h
      exact ⟨L, h1, h2, fun i hi => by rw [least_same hge, h3 i hi]⟩)
    clear h
    generalize s.getD v 0 = z at *
    generalize leastN s vs v = y at *
    go_enter Try.func16, Try.ntmps16
    go_wp2_with fail
    exact bodyPost_ret (results_none rfl _ _ _) rfl ⟨rfl, HE.out, World.grownBy.refl w _⟩
  · have HT := Lib.hid h
    have HS := Lib.hid (fun w k (hk : k < 64) => psub_any w k v (by omega) (by omega))
    have HSk := Lib.hid (fun k L (h : MidL s vs v k L) hs hk => h.skip hs hk)
    have HTk := Lib.hid (fun k L (h : MidL s vs v k L) hs hk => h.take hs hk)
    have HSp := Lib.hid (fun L (h : MidL s vs v s.length L) => h.stop)
    have HAt := Lib.hid (fun k L (h : MidL s vs v k L) (hk : k < s.length) => h.2.2 k (Nat.le_refl _) hk)
    have HLn := Lib.hid (fun k L (h : MidL s vs v k L) => h.1)
    have HG0 := Lib.hid (World.grownBy.refl w (some B))
    have H0 := Lib.hid (show ∃ L, RowE w B 2 (intsE L) ∧ MidL s vs v 0 L from by
      obtain ⟨L, h1, h2⟩ := h
      exact ⟨L, h1, MidL.start h2⟩)
    clear h
    generalize hz : s.getD v 0 = z at *
    generalize leastN s vs v = y at *
    go_enter Try.func16, Try.ntmps16
    go_wp2_with fail
    go_loopw [15] (fun iv wr => ∃ k : Nat, k ≤ s.length ∧ iv = .int .i64 k ∧ Hid (∃ L : List Int, RowE wr B 2 (intsE L) ∧ MidL s vs v k L) ∧ Hid (w.grownBy wr (some B))) (fun iv _ => s.length - (intOf iv).toNat)
    case atStart => exact ⟨0, Nat.zero_le _, rfl, H0, HG0⟩
    case round =>
      obtain ⟨k, hk, rfl, HJ, HG⟩ := hrel
      clear hcv hfv hge HT H0 HG0
      by_cases hlt : k < s.length
      · have hlt' : (k : Int) < (s.length : Int) := by omega
        have hcw := u32_small (show k < 4294967296 by omega)
        obtain ⟨L, hrow, hM⟩ := HJ.out
        have hLl := HLn.out k L hM
        have hat := hrow.at (i := k) (by rw [intsE_len]; omega)
        rw [intsE_get L (by omega), HAt.out k L hM hlt] at hat
        obtain ⟨hc1, hf1⟩ := hat
        have HSb := Lib.hid (HS.out wr k (by omega))
        cases hs : subN k v with
        | false =>
          rw [hs] at HSb
          have HJ2 := Lib.hid (show ∃ L : List Int, RowE wr B 2 (intsE L) ∧ MidL s vs v (k + 1) L from ⟨L, hrow, HSk.out k L hM hs hlt⟩)
          clear hs hM hrow hc1 hf1 HJ hLl
          go_wp2_with fail
          refine HSb.out.mono ?_; rintro e w1 ⟨rfl, rfl⟩
          go_wp2_with fail
          go_roundw
          case rel => exact ⟨k + 1, by omega, by go_num, HJ2, HG⟩
          case measure => simp [intOf]; omega
        | true =>
          rw [hs] at HSb
          have HJ2 := Lib.hid (show ∃ L : List Int, RowE (wr.setCell ⟨B, k, none⟩ (.int .i64 (minI (leastN s vs k) z))) B 2 (intsE L) ∧ MidL s vs v (k + 1) L from ⟨L.set k (minI (leastN s vs k) z), by rw [← intsE_set]; exact hrow.set _, HTk.out k L hM hs hlt⟩)
          have HG2 := Lib.hid (grown_then HG.out (grown_set wr B k (.int .i64 (minI (leastN s vs k) z))))
          clear hs hM hrow HJ hLl HG HTk HSk hz
          generalize leastN s vs k = y at *
          unfold minI at *
          go_wp2_with fail
          refine HSb.out.mono ?_; rintro e w1 ⟨rfl, rfl⟩
          go_wp2_with fail
          go_roundw
          case rel => exact ⟨k + 1, by omega, by go_num, HJ2, HG2⟩
          case measure => simp [intOf]; omega
      · have hkn : k = s.length := by omega
        subst hkn
        have hlt' : ¬ (s.length : Int) < (s.length : Int) := by omega
        have HE := Lib.hid (show TabR wr B s (vs ++ [v]) from by
          obtain ⟨L, h1, h2⟩ := HJ.out
          exact ⟨L, h1, HSp.out L h2⟩)
        clear HJ
        go_wp2_with fail
        exact bodyPost_ret (results_none rfl _ _ _) rfl ⟨rfl, HE.out, HG.out⟩
theorem sum_part {s : List Int} (h : Okz s) (h0 : 0 < s.length) {vs : List Nat} (hv : ∀ v ∈ vs, v < s.length) {k : Nat} (hk : k ≤ 64) : 0 ≤ sumK (leastN s vs) k ∧ sumK (leastN s vs) k ≤ 70368744177664 := by
  have h1 := sumK_range (f := leastN s vs) (B := 1099511627776) (k := k) fun i _ => by
    have := least_range h h0 i hv
    omega
  omega
theorem gain_range {s : List Int} (h : Okz s) (h0 : 0 < s.length) {vs : List Nat} (hv : ∀ v ∈ vs, v < s.length) {v : Nat} (hw : v < s.length) (i : Nat) : 0 ≤ gainN s vs v i ∧ gainN s vs v i ≤ 1099511627776 := by
  have h1 := least_range h h0 i hv
  have h2 := h.at hw
  refine ⟨gain_nn s vs v i, ?_⟩
  unfold gainN
  split <;> omega
theorem save_part {s : List Int} (h : Okz s) (h0 : 0 < s.length) {vs : List Nat} (hv : ∀ v ∈ vs, v < s.length) {v : Nat} (hw : v < s.length) {k : Nat} (hk : k ≤ 64) : 0 ≤ sumK (gainN s vs v) k ∧ sumK (gainN s vs v) k ≤ 70368744177664 := by
  have h1 := sumK_range (f := gainN s vs v) (B := 1099511627776) (k := k) fun i _ => gain_range h h0 hv hw i
  omega
set_option maxHeartbeats 4000000 in
theorem psum_any (w : World) (B : Nat) (s : List Int) (vs : List Nat) (h : TabR w B s vs) (ho : Okz s) (h0 : 0 < s.length) (hv : ∀ v ∈ vs, v < s.length) (hl : s.length ≤ 64) :
    Calls Try.prog 17 #[.slice (some ⟨B, 0, none⟩) s.length s.length] w fun e w' => e = .returned (.int .i64 (costN s vs)) ∧ w = w' := by
  have HC := Lib.hid (fun i (hi : i < s.length) => (h.at hi).1)
  have HK := Lib.hid (fun k (hk : k ≤ 64) => sum_part ho h0 hv hk)
  have HN := Lib.hid (fun k => show sumK (leastN s vs) (k + 1) = sumK (leastN s vs) k + leastN s vs k from rfl)
  have HE := Lib.hid (show costN s vs = sumK (leastN s vs) s.length from rfl)
  have HZ := Lib.hid (show sumK (leastN s vs) 0 = 0 from rfl)
  generalize costN s vs = C at *
  clear h ho hv
  go_enter Try.func17, Try.ntmps17
  go_wp2_with fail
  go_loopw [8, 3] (fun iv tv wr => ∃ (k : Nat) (t : Int), k ≤ s.length ∧ iv = .int .i64 k ∧ tv = .int .i64 t ∧ wr = w ∧ Hid (t = sumK (leastN s vs) k)) (fun iv _ _ => s.length - (intOf iv).toNat)
  case atStart => exact ⟨0, 0, Nat.zero_le _, rfl, rfl, by trivial, Lib.hid HZ.out.symm⟩
  case round =>
    obtain ⟨k, t, hk, rfl, rfl, rfl, HT⟩ := hrel
    by_cases hlt : k < s.length
    · have hlt' : (k : Int) < (s.length : Int) := by omega
      have hc := HC.out k hlt
      have hn := HN.out k
      have hr := HK.out (k + 1) (by omega)
      have hr0 := HK.out k (by omega)
      rw [hn] at hr
      rw [← HT.out] at hr hn hr0
      have HT2 := Lib.hid hn.symm
      clear hn HT
      generalize leastN s vs k = y at *
      have hww : IntKind.i64.wrap (t + y) = t + y := IntWalk.i64_in _ (by omega)
      go_wp2_with fail
      go_roundw
      case rel => exact ⟨k + 1, t + y, by omega, by go_num, rfl, by trivial, HT2⟩
      case measure => simp [intOf]; omega
    · have hkn : k = s.length := by omega
      subst hkn
      have hlt' : ¬ (s.length : Int) < (s.length : Int) := by omega
      have hR := HT.out.trans HE.out.symm
      subst hR
      clear HT HE
      go_wp2_with fail
      go_ret
      exact ⟨rfl, rfl⟩
end Go.Proofs.Ytifbmdophoemjaa
