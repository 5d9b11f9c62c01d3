/- Join of package flo, and the examples of its chapter. -/
import Derived.Test.YtpfcacjcikhamaaDoorFlom
import Derived.Test.YtpfcacjcikhamaaDoorLaid2
namespace Go.Proofs.YtpfcacjcikhamaaDoor
set_option maxRecDepth 100000
open Go.RowKit Go.ChangeShapes Go.WideShapes Go.ChangeAt
set_option linter.unusedVariables false
theorem nearW_le (z : Nat) (e : Int) : nearW z e ≤ 9218868437227405312 := by
  unfold nearW
  by_cases h1 : z = 0 ∨ e + bitsZ z < -1074
  · rw [if_pos h1]; omega
  · rw [if_neg h1]
    by_cases h2 : 1024 < e + bitsZ z
    · rw [if_pos h2]; omega
    · rw [if_neg h2]
      obtain ⟨f1, f2, f3, -, -⟩ := near_facts (z := z) (L := bitsZ z) (e := e) (bits_lt_nat (fun h => h1 (.inl h))) (by omega) (by omega)
      rcases isFl_near f1 f2 f3 with ⟨q1, q2⟩ | ⟨q1, d, p, k1, k2, k3, k4⟩ | ⟨q1, q2, q3⟩
      · rw [q2]; omega
      · rw [k4]; have := rung_lt k2 k3; exact Nat.le_of_lt this
      · rw [q3]; omega
theorem join_any (b : Bool) (v : Value) (a : List Int) (z : Nat) (e : Int) (w : World) (hv : WList w v a) (la : a.length ≤ 1000) (hz : wv a = (z : Int)) (e0 : -9223372036854775808 ≤ e) (e1 : e ≤ 9223372036854775807) (hT : Tab w) :
    Calls Tryd.prog 36 #[.bool b, v, .int .i64 e] w fun r w' => r = .returned (.float .f64 (signN b (nearW z e))) ∧ Below w.heap.size w w' := by
  have HN := Lib.hid (pnear_any v a z e w hv la hz e0 e1 hT)
  have hle := nearW_le z e
  generalize nearW z e = R at *
  have HC := Lib.hid (fun w => copysign_pos R w (by omega))
  have hf : flipN R = R + 9223372036854775808 := by unfold flipN; rw [if_pos (by omega)]
  have HF := Lib.hid hf
  obtain ⟨p, c, rfl⟩ := hv.shape
  clear hv hT hf hz la e0 e1 hle
  unfold signN
  cases b
  · go_enter Tryd.func36, Tryd.ntmps36
    go_wp2_with fail
    refine (HN.out).mono ?_; rintro r w1 ⟨rfl, hb⟩
    go_wp2_with fail
    go_ret
    exact ⟨rfl, hb⟩
  · generalize flipN R = R2 at *
    go_enter Tryd.func36, Tryd.ntmps36
    go_wp2_with fail
    refine (HN.out).mono ?_; rintro r w1 ⟨rfl, hb⟩
    go_wp2_with fail
    refine (HC.out w1).mono ?_; rintro r w2 ⟨rfl, rfl⟩
    go_wp2_with fail
    go_ret
    exact ⟨ret_float HF.out.symm, hb⟩
theorem six_canon : Canon 6755399441055744 (-50) := ⟨by decide, by decide, .inl (by decide)⟩
theorem six_split : IsSplit 6755399441055744 (-50) 3 1 := ⟨by decide, by decide, ⟨51, .inl ⟨by decide, by decide⟩⟩, by decide⟩
set_option maxHeartbeats 4000000 in
theorem awake3_any (w : World) (hT : Tab w) (hT2 : Tab64 w) : Calls Tryd.prog 34 #[] w fun e w' => e = .returned (.bool true) ∧ Below w.heap.size w w' := by
  have h0 : W64 0 := by decide
  have hx : W64 13841813454723219456 := by decide
  have HS := Lib.hid (psplit_fin 13841813454723219456 6755399441055744 (-50) w hx (by decide) six_canon (by decide) (by decide) (by decide) hT2)
  have hng : negB 13841813454723219456 = true := by decide
  unfold PSplitPost at HS
  rw [hng] at HS
  have HJ := Lib.hid (fun (w1 : World) (hb : Below w.heap.size w w1) => join_any false _ [1, 2097152] 9007199254740993 0 _ (two_words 1 2097152 (by decide) (by decide) w1) (by decide) (by decide) (by decide) (by decide) (hT.call (hb.trans ((below_one w1 _).mono hb.size))))
  have hnear : signN false (nearW 9007199254740993 0) = 4845873199050653696 := by decide +kernel
  rw [hnear] at HJ
  have hcmp : (FloatKind.f64.format.order 4845873199050653696 4845873199050653696 == some .eq) = true := by decide +kernel
  have HK := Lib.hid (fun w => fkey_any 0 w h0)
  have hk0 : keyI 0 = 9223372036854775808 := by decide
  rw [hk0] at HK
  have HG := Lib.hid (fun w => rsign_any true 0 w h0)
  have hsg : signN true 0 = 9223372036854775808 := by decide
  rw [hsg] at HG
  have HU := Lib.hid (fun w => up_any 9223372036854775808 w (by decide))
  have hup : upN 9223372036854775808 = 0 := by decide
  rw [hup] at HU
  have HM := Lib.hid (fun w => rsame_any 0 0 w h0 h0)
  have hsm : sameB 0 0 = true := by decide
  rw [hsm] at HM
  clear h0 hx hng hnear hk0 hsg hup hsm hT hT2
  go_enter Tryd.func34, Tryd.ntmps34
  go_wp2_with fail
  refine (HS.out).mono ?_; rintro e w1 ⟨⟨m, k, hs, rfl⟩, hd⟩
  obtain ⟨rfl, rfl⟩ := hs.unique six_split
  clear HS hs
  go_wp2_with fail
  refine (HJ.out _ hd.below).mono ?_; rintro e w2 ⟨rfl, hb2⟩
  have hE := Lib.hid (hd.below.trans (((below_one w1 _).trans (hb2.mono (below_one w1 _).size)).mono hd.below.size))
  clear hb2 hd HJ
  go_wp2_with fail
  refine (HK.out _).mono ?_; rintro e w3 ⟨rfl, rfl⟩
  clear HK
  go_wp2_with fail
  refine (HG.out _).mono ?_; rintro e w3 ⟨rfl, rfl⟩
  clear HG
  go_wp2_with fail
  refine (HU.out _).mono ?_; rintro e w3 ⟨rfl, rfl⟩
  clear HU
  go_wp2_with fail
  refine (HM.out _).mono ?_; rintro e w3 ⟨rfl, hd3⟩
  clear HM
  go_wp2_with fail
  go_ret
  exact ⟨rfl, hE.out.trans (hd3.below.mono hE.out.size)⟩
/- The two tables of math/bits. -/
abbrev laid3 : List (String × DataW Unit) := [("math/bits.deBruijn32tab", Rows.laid_math_bits_deBruijn32tab), ("math/bits.deBruijn64tab", Rows.laid_math_bits_deBruijn64tab)]
theorem gTab64 : Tryd.prog.globalNamed "math/bits.deBruijn64tab" = some 2 := by kernel_rfl
theorem tTab64 : (Tryd.prog.globals[2]?).map (·.type) = some 96 := by kernel_rfl
theorem laidMet_tail {P : Program} {name : String} {d : DataW Unit} {rest : List (String × DataW Unit)} {W : World} (h : laidMet P ((name, d) :: rest) W) : laidMet P rest W := by
  obtain ⟨ps, ⟨g, t, cs, fuel, p, q, hg, ht, hv, hd, h1, h2⟩, hn, hall⟩ := h
  subst h2
  exact ⟨q, h1, (List.nodup_append.1 hn).2.1, fun b off hm => hall b off (List.mem_append_right _ hm)⟩
def tabInts64 : List Int := [0, 1, 56, 2, 57, 49, 28, 3, 61, 58, 42, 50, 38, 29, 17, 4, 62, 47, 59, 36, 45, 43, 51, 22, 53, 39, 33, 30, 24, 18, 12, 5, 63, 55, 48, 27, 60, 41, 37, 16, 46, 35, 44, 21, 52, 32, 23, 11, 54, 26, 40, 15, 34, 20, 31, 10, 25, 14, 19, 9, 13, 8, 7, 6]
theorem tab_of3 {W : World} (h : laidMetH Tryd.prog laid3 W) : Tab W := by
  rw [MakeChecks.laidMetH_plain _ _ _ (by kernel_rfl)] at h
  have h1 : Lib.TabIs Tryd.prog W "math/bits.deBruijn32tab" .u8 tabInts :=
    Lib.tabIs_of_head (n := 32) gTab tTab Tryd.underlying93 Tryd.underlying5 (by kernel_rfl) (by kernel_rfl) h
  intro j hj
  have hj2 : j < tabInts.length := hj
  rw [h1.cell gTab j hj2]
  have key : ∀ k : Fin 32, tabInts.getD k.val 0 = ((Lib.deBruijn32tab.getD k.val 0 : Nat) : Int) := by decide
  rw [key ⟨j, hj⟩]
theorem tab64_of3 {W : World} (h : laidMetH Tryd.prog laid3 W) : Tab64 W := by
  rw [MakeChecks.laidMetH_plain _ _ _ (by kernel_rfl)] at h
  have h1 : Lib.TabIs Tryd.prog W "math/bits.deBruijn64tab" .u8 tabInts64 :=
    Lib.tabIs_of_head (n := 64) (rest := []) gTab64 tTab64 Tryd.underlying96 Tryd.underlying5 (by kernel_rfl) (by kernel_rfl) (laidMet_tail h)
  intro j hj
  have hj2 : j < tabInts64.length := hj
  rw [h1.cell gTab64 j hj2]
  have key : ∀ k : Fin 64, tabInts64.getD k.val 0 = ((Lib.deBruijn64tab.getD k.val 0 : Nat) : Int) := by decide
  rw [key ⟨j, hj⟩]
theorem door_met3 (os : Os) (args : Array Value) : laidMetH Tryd.prog laid3 ((World.doorLaid Tryd.prog 800 os).forCall (fun _ _ => 0) ⟨#[], args, []⟩).memory :=
  laidMetH_of_parts3 (fuel := 8) (laidMet_of_run' 8 (by kernel_rfl) (by kernel_rfl)) (by kernel_rfl) (by kernel_rfl)
end Go.Proofs.YtpfcacjcikhamaaDoor
