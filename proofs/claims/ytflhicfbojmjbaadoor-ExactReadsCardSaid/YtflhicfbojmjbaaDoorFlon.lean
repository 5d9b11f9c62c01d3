/- Join of package flo, and the examples of its chapter. -/
import Derived.Test.YtflhicfbojmjbaaDoorFlom
import Derived.Test.YtflhicfbojmjbaaDoorLaid2
namespace Go.Proofs.YtflhicfbojmjbaaDoor
set_option maxRecDepth 100000
open Go.RowKit Go.ChangeShapes Go.WideShapes Go.ChangeAt
set_option linter.unusedVariables false
theorem nearW_le (z : Nat) (e : Int) : nearW z e ≤ 9218868437227405312 := by
  unfold nearW
  by_cases h1 : z = 0 ∨ e + bitsZ z < -1074
  · rw [if_pos h1]; omega
  · rw [if_neg h1]
    by_cases h2 : 1024 < e + bitsZ z
    · rw [if_pos h2]; omega
    · rw [if_neg h2]
      obtain ⟨f1, f2, f3, -, -⟩ := near_facts (z := z) (L := bitsZ z) (e := e) (bits_lt_nat (fun h => h1 (.inl h))) (by omega) (by omega)
      rcases isFl_near f1 f2 f3 with ⟨q1, q2⟩ | ⟨q1, d, p, k1, k2, k3, k4⟩ | ⟨q1, q2, q3⟩
      · rw [q2]; omega
      · rw [k4]; have := rung_lt k2 k3; exact Nat.le_of_lt this
      · rw [q3]; omega
theorem join_any (b : Bool) (v : Value) (a : List Int) (z : Nat) (e : Int) (w : World) (hv : WList w v a) (la : a.length ≤ 1000) (hz : wv a = (z : Int)) (e0 : -9223372036854775808 ≤ e) (e1 : e ≤ 9223372036854775807) (hT : Tab w) :
    Calls Tryd.prog 44 #[.bool b, v, .int .i64 e] w fun r w' => r = .returned (.float .f64 (signN b (nearW z e))) ∧ Below w.heap.size w w' := by
  have HN := Lib.hid (pnear_any v a z e w hv la hz e0 e1 hT)
  have hle := nearW_le z e
  generalize nearW z e = R at *
  have HC := Lib.hid (fun w => copysign_pos R w (by omega))
  have hf : flipN R = R + 9223372036854775808 := by unfold flipN; rw [if_pos (by omega)]
  have HF := Lib.hid hf
  obtain ⟨p, c, rfl⟩ := hv.shape
  clear hv hT hf hz la e0 e1 hle
  unfold signN
  cases b
  · go_enter Tryd.func44, Tryd.ntmps44
    go_wp2_with fail
    refine (HN.out).mono ?_; rintro r w1 ⟨rfl, hb⟩
    go_wp2_with fail
    go_ret
    exact ⟨rfl, hb⟩
  · generalize flipN R = R2 at *
    go_enter Tryd.func44, Tryd.ntmps44
    go_wp2_with fail
    refine (HN.out).mono ?_; rintro r w1 ⟨rfl, hb⟩
    go_wp2_with fail
    refine (HC.out w1).mono ?_; rintro r w2 ⟨rfl, rfl⟩
    go_wp2_with fail
    go_ret
    exact ⟨ret_float HF.out.symm, hb⟩
theorem six_canon : Canon 6755399441055744 (-50) := ⟨by decide, by decide, .inl (by decide)⟩
theorem six_split : IsSplit 6755399441055744 (-50) 3 1 := ⟨by decide, by decide, ⟨51, .inl ⟨by decide, by decide⟩⟩, by decide⟩
end Go.Proofs.YtflhicfbojmjbaaDoor
