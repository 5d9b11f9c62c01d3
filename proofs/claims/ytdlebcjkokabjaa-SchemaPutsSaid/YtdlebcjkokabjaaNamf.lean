/- The reference's Twice and Same. -/
import Derived.Test.YtdlebcjkokabjaaName
import Derived.Test.YtdlebcjkokabjaaFlof
import Derived.BigQuiet
import Derived.Deep.QuietTactic
import Derived.Deep.Draws
import Derived.Deep.CutBlock
import Derived.WalkSmall
namespace Go.Proofs.Ytdlebcjkokabjaa
set_option maxRecDepth 100000
open Go.RowKit
set_option linter.unusedVariables false
theorem Strs.drawn {w w' : World} {v : Value} {l : List ByteArray} (h : Strs w v l) (hd : Drawn w w') : Strs w' v l := h.below hd.below
/-- A slice's beginning. -/
theorem Strs.upto {w : World} {a : Option Addr} {cap : Nat} {l : List ByteArray} (h : Strs w (.slice a l.length cap) l) {k : Nat} (hk : k ≤ l.length) : Strs w (.slice a k cap) (l.take k) := by
  obtain ⟨a', cap', e, h1, h2, h3⟩ := h
  injection e with e1 e2 e3
  subst e1 e3
  have ht : (l.take k).length = k := by rw [List.length_take]; omega
  refine ⟨a, cap, by rw [ht], by omega, by omega, ?_⟩
  rcases h3 with rfl | ⟨b, off, rfl, hlt, hc⟩
  · exact .inl (by simp)
  · refine .inr ⟨b, off, rfl, hlt, fun i hi => ?_⟩
    rw [ht] at hi
    rw [hc i (by omega)]
    simp [txt, List.getD, hi]
set_option maxHeartbeats 2000000 in
theorem rtwice_any (v : Value) (l : List ByteArray) (w : World) (h : Strs w v l) :
    Calls Try.prog 26 #[v] w fun e w' => e = .returned (.int .i64 (twiceL l)) ∧ Drawn w w' := by
  have HS := Lib.hid h
  obtain ⟨a, cap, rfl, h1, h2, h3⟩ := h
  rcases h3 with rfl | ⟨b, off, rfl, hlt, hc⟩
  · go_enter Try.func26, Try.ntmps26
    go_wp2
    refine wp_loop_rounds 1 ?_
    rw [rounds_succ]
    go_wp2
    go_ret
    exact ⟨rfl, Drawn.refl _⟩
  · have HC := Lib.hid hc
    have HM := Lib.hid (@twice_miss l)
    have HH := Lib.hid (fun k => @twice_hit l k)
    generalize twiceL l = r at *
    clear hc
    go_enter Try.func26, Try.ntmps26
    go_wp2
    go_loopw [3] (fun i wr => ∃ k : Nat, k ≤ l.length ∧ i = .int .i64 k ∧ Hid (Drawn w wr) ∧ Hid (∀ j, j < k → twiceAt l j = false)) (fun i _ => l.length - (intOf i).toNat)
    case atStart => exact ⟨0, Nat.zero_le _, rfl, Lib.hid (Drawn.refl _), Lib.hid (fun j hj => by omega)⟩
    case round =>
      obtain ⟨k, hk, rfl, HD, HJ⟩ := hrel
      by_cases hlk : k < l.length
      · have hx : wr.cell? ⟨b, off + k, none⟩ = some (.string (txt l k)) := (HD.out.below.cell (p := ⟨b, off + k, none⟩) hlt).trans (HC.out k hlk)
        have HP := Lib.hid (fun n => (rplace_any _ (l.take k) (txt l k) (wr.drewN n) ((HS.out.drawn (HD.out.next n)).upto hk)).mono fun e w' h => show e = .returned (.int .i64 (placeL (l.take k) (txt l k))) ∧ ∃ m, w' = (wr.drewN n).drewN m from ⟨h.1, 0, h.2.symm⟩)
        have HQ := Lib.hid (fun q : twiceAt l k = false => fun j (hj : j < k + 1) => if e : j = k then (e ▸ q : twiceAt l j = false) else HJ.out j (by omega))
        have HR := Lib.hid (fun q : twiceAt l k = true => HH.out k hlk q HJ.out)
        have HE := Lib.hid (show twiceAt l k = decide (0 ≤ placeL (l.take k) (txt l k)) from rfl)
        have HN := Lib.hid (fun n => HD.out.next n)
        generalize placeL (l.take k) (txt l k) = p at *
        generalize twiceAt l k = t at *
        generalize txt l k = x at *
        have hkc : k ≤ cap := by omega
        go_upto_region 4 with fail
        go_quiet ((go_at_call 57; exact Calls.quiet_of (HP.out _)))
        have HD2 := Lib.hid (HN.out nq)
        by_cases hp : 0 ≤ p
        · have HR2 := Lib.hid (HR.out (by rw [HE.out]; exact decide_eq_true hp))
          go_wp2
          go_ret
          rw [HR2.out]
          exact ⟨rfl, HD2.out⟩
        · have HQ2 := Lib.hid (HQ.out (by rw [HE.out]; exact decide_eq_false hp))
          go_wp2
          go_roundw
          case rel => exact ⟨k + 1, by omega, by go_num, HD2, HQ2⟩
          case measure => simp [intOf]; omega
      · have : k = l.length := by omega
        subst this
        have HR := Lib.hid (HM.out HJ.out)
        go_wp2
        go_ret
        rw [HR.out]
        exact ⟨rfl, HD.out⟩
set_option maxHeartbeats 2000000 in
theorem rsame_any (u v : Value) (l : List ByteArray) (w : World) (hu : Strs w u l) (hv : Strs w v l) :
    Calls Try.prog 52 #[u, v] w fun e w' => e = .returned (.bool true) ∧ Drawn w w' := by
  obtain ⟨a, cap, rfl, h1, h2, h3⟩ := hu
  obtain ⟨a', cap', rfl, h1', h2', h3'⟩ := hv
  rcases h3 with rfl | ⟨b, off, rfl, hlt, hc⟩
  · go_enter Try.func52, Try.ntmps52
    go_wp2
    refine wp_loop_rounds 1 ?_
    rw [rounds_succ]
    go_wp2
    go_ret
    exact ⟨rfl, Drawn.refl _⟩
  · rcases h3' with rfl | ⟨b', off', rfl, hlt', hc'⟩
    · go_enter Try.func52, Try.ntmps52
      go_wp2
      refine wp_loop_rounds 1 ?_
      rw [rounds_succ]
      go_wp2
      go_ret
      exact ⟨rfl, Drawn.refl _⟩
    · have HC := Lib.hid hc
      have HC' := Lib.hid hc'
      clear hc hc'
      go_enter Try.func52, Try.ntmps52
      go_wp2
      go_loopw [5] (fun i wr => ∃ k : Nat, k ≤ l.length ∧ i = .int .i64 k ∧ Hid (Drawn w wr)) (fun i _ => l.length - (intOf i).toNat)
      case atStart => exact ⟨0, Nat.zero_le _, rfl, Lib.hid (Drawn.refl _)⟩
      case round =>
        obtain ⟨k, hk, rfl, HD⟩ := hrel
        by_cases hlk : k < l.length
        · have hx : wr.cell? ⟨b, off + k, none⟩ = some (.string (txt l k)) := (HD.out.below.cell (p := ⟨b, off + k, none⟩) hlt).trans (HC.out k hlk)
          have hx' : wr.cell? ⟨b', off' + k, none⟩ = some (.string (txt l k)) := (HD.out.below.cell (p := ⟨b', off' + k, none⟩) hlt').trans (HC'.out k hlk)
          have e := toL_same (txt l k)
          have HN := Lib.hid (fun n => HD.out.next n)
          generalize txt l k = x at *
          go_upto_region 6 with fail
          go_quiet (fail)
          have HD2 := Lib.hid (HN.out nq)
          go_wp2
          go_roundw
          case rel => exact ⟨k + 1, by omega, by go_num, HD2⟩
          case measure => simp [intOf]; omega
        · have : k = l.length := by omega
          subst this
          go_wp2
          go_ret
          exact ⟨rfl, HD.out⟩
end Go.Proofs.Ytdlebcjkokabjaa
