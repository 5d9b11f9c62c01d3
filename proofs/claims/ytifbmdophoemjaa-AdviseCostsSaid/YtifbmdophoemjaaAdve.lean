/- Layer 18: Cost, Gain and Choose of the program. -/
import Derived.Test.YtifbmdophoemjaaAdvd
namespace Go.Proofs.Ytifbmdophoemjaa
set_option maxRecDepth 100000
open Go.RowKit
set_option linter.unusedVariables false
theorem getD_memN {l : List Nat} {k : Nat} (hk : k < l.length) : l.getD k 0 ∈ l := getD_mem17 hk
def costR (d : Int) (s : List Int) (vs : List Nat) : Value := if checkN d s vs = 0 then .tuple #[.int .i64 (costN s vs), .int .i64 0] else .tuple #[.int .i64 0, .int .i64 (checkN d s vs)]
theorem costR_ok {d : Int} {s : List Int} {vs : List Nat} (h : checkN d s vs = 0) : costR d s vs = .tuple #[.int .i64 (costN s vs), .int .i64 0] := if_pos h
theorem costR_no {d : Int} {s : List Int} {vs : List Nat} (h : ¬ checkN d s vs = 0) : costR d s vs = .tuple #[.int .i64 0, .int .i64 (checkN d s vs)] := if_neg h
set_option maxHeartbeats 8000000 in
theorem pcost_any (w : World) (d : Int) (sv uv : Value) (s : List Int) (vs : List Nat) (hd : (Lit.int .i64 d).wf = true) (hs : Szs w sv s) (hu : Msk w uv vs) (hb : Bd vs) (hl : s.length ≤ 1000) (hvl : vs.length ≤ 1000000) :
    Calls Try.prog 7 #[.int .i64 d, sv, uv] w fun e w' => e = .returned (costR d s vs) ∧ Below w.heap.size w w' := by
  have HCk := Lib.hid (pcheck_any w d sv uv s vs hd hs hu hb hl hvl)
  have HS := Lib.hid hs
  have HU := Lib.hid hu
  by_cases hc : checkN d s vs = 0
  rotate_left
  · rw [costR_no hc]
    obtain ⟨q, qc, rfl⟩ := hs.len
    obtain ⟨p, pc, rfl⟩ := hu.len
    generalize checkN d s vs = C at *
    have hc' : (C != 0) = true := by rw [bne_iff_ne]; exact hc
    clear hs hu hb hc
    go_enter Try.func7, Try.ntmps7
    go_wp2_with fail
    refine HCk.out.mono ?_; rintro e w1 ⟨rfl, rfl⟩
    go_wp2_with fail
    go_ret2
    exact ⟨rfl, Below.refl _ _⟩
  · rw [costR_ok hc]
    obtain ⟨hw, hvs⟩ := check_ok hc
    obtain ⟨k, rfl, hk1, hk6, hlen, hok⟩ := wrong_ok hw
    have hp := pow64 hk6
    have h64 : s.length ≤ 64 := by omega
    have h0 : 0 < s.length := by omega
    rw [hc] at HCk
    have HB := Lib.hid (pbase_any w sv s hs h0 hl)
    have HT := Lib.hid (fun j (hj : j ≤ vs.length) => show ∀ v ∈ vs.take j, v < s.length from fun v hv => hvs v (List.mem_of_mem_take hv))
    have HA := Lib.hid (fun wr j (h : TabR wr w.heap.size s (vs.take j)) (hj : j < vs.length) => padd_any wr w.heap.size s (vs.take j) (vs.getD j 0) h (hvs _ (getD_memN hj)) h64)
    have HSu := Lib.hid (fun wr (h : TabR wr w.heap.size s vs) => psum_any wr w.heap.size s vs h hok h0 hvs h64)
    have HN := Lib.hid (fun j (hj : j < vs.length) => @take_next vs j hj)
    have HL := Lib.hid (show vs.take vs.length = vs from List.take_length)
    have H0 := Lib.hid (show vs.take 0 = [] from List.take_zero)
    have HM := Lib.hid (fun j (hj : j < vs.length) => hvs _ (getD_memN hj))
    have hsz := h0
    obtain ⟨q, qc, rfl⟩ := hs.len
    obtain ⟨p, pc, rfl⟩ := hu.len
    clear hs hu hb hc hw hvs hok hlen hp hk1 hk6
    go_enter Try.func7, Try.ntmps7
    go_wp2_with fail
    refine HCk.out.mono ?_; rintro e w1 ⟨rfl, rfl⟩
    go_wp2_with fail
    refine HB.out.mono ?_; rintro e w2 ⟨⟨rfl, ht⟩, hb2⟩
    have HTb := Lib.hid ht
    have HB2 := Lib.hid hb2
    clear ht hb2 HB HCk
    go_wp2_with fail
    go_loopw [23] (fun iv wr => ∃ j : Nat, j ≤ vs.length ∧ iv = .int .i64 j ∧ Hid (TabR wr w1.heap.size s (vs.take j)) ∧ Hid (Below w1.heap.size w1 wr)) (fun iv _ => vs.length - (intOf iv).toNat)
    case atStart => exact ⟨0, Nat.zero_le _, rfl, Lib.hid (by rw [H0.out]; exact HTb.out), HB2⟩
    case round =>
      obtain ⟨j, hj, rfl, HJ, HW⟩ := hrel
      clear HTb HB2
      by_cases hlt : j < vs.length
      · have hlt' : (j : Int) < (vs.length : Int) := by omega
        obtain ⟨b0, off, rfl, hc0⟩ := Msk.at (HU.out.below HW.out) hlt
        have hm := HM.out j hlt
        have hm' : ((vs.getD j 0 : Nat) : Int) < (s.length : Int) := by omega
        obtain ⟨b1, off1, rfl, -, hc1⟩ := (HS.out.below HW.out).cell hm
        have HAj := Lib.hid (HA.out wr j HJ.out hlt)
        have HNj := Lib.hid (HN.out j hlt)
        clear HA HN HM hm HJ HSu
        generalize vs.getD j 0 = x at *
        go_wp2_with fail
        refine HAj.out.mono ?_; rintro e w3 ⟨rfl, ht, hg⟩
        have HJ2 := Lib.hid (show TabR w3 w1.heap.size s (vs.take (j + 1)) from by rw [HNj.out]; exact ht)
        have HW2 := Lib.hid (show Below w1.heap.size w1 w3 from HW.out.grown hg HW.out.size (fun k hk => by have e : w1.heap.size = k := Option.some.inj hk; omega))
        clear ht hg HAj HW hc0 hc1 HNj
        go_wp2_with fail
        go_roundw
        case rel => exact ⟨j + 1, by omega, by go_num, HJ2, HW2⟩
        case measure => simp [intOf]; omega
      · have hjn : j = vs.length := by omega
        subst hjn
        have hlt' : ¬ (vs.length : Int) < (vs.length : Int) := by omega
        have HSm := Lib.hid (HSu.out wr (by have := HJ.out; rwa [HL.out] at this))
        clear HSu HA HJ HM HN
        go_wp2_with fail
        refine HSm.out.mono ?_; rintro e w3 ⟨rfl, rfl⟩
        go_wp2_with fail
        go_ret2
        exact ⟨rfl, HW.out⟩
/-- What Gain hands back. -/
def gainR (d : Int) (s : List Int) (vs : List Nat) : Value := if checkN d s vs = 0 then .tuple #[.int .i64 (costN s [] - costN s vs), .int .i64 0] else .tuple #[.int .i64 0, .int .i64 (checkN d s vs)]
theorem gainR_ok {d : Int} {s : List Int} {vs : List Nat} (h : checkN d s vs = 0) : gainR d s vs = .tuple #[.int .i64 (costN s [] - costN s vs), .int .i64 0] := if_pos h
theorem gainR_no {d : Int} {s : List Int} {vs : List Nat} (h : ¬ checkN d s vs = 0) : gainR d s vs = .tuple #[.int .i64 0, .int .i64 (checkN d s vs)] := if_neg h
set_option maxHeartbeats 8000000 in
theorem pgain_any (w : World) (d : Int) (sv uv : Value) (s : List Int) (vs : List Nat) (hd : (Lit.int .i64 d).wf = true) (hs : Szs w sv s) (hu : Msk w uv vs) (hb : Bd vs) (hl : s.length ≤ 1000) (hvl : vs.length ≤ 1000000) :
    Calls Try.prog 8 #[.int .i64 d, sv, uv] w fun e w' => e = .returned (gainR d s vs) ∧ Below w.heap.size w w' := by
  have HC := Lib.hid (pcost_any w d sv uv s vs hd hs hu hb hl hvl)
  have HC0 := Lib.hid (fun w1 (hb1 : Below w.heap.size w w1) => pcost_any w1 d sv (.slice none 0 0) s [] hd (hs.below hb1) ⟨none, 0, rfl, Nat.le_refl _, .inl rfl⟩ Bd.nil hl (by decide))
  by_cases hc : checkN d s vs = 0
  rotate_left
  · rw [gainR_no hc]
    rw [costR_no hc] at HC
    obtain ⟨q, qc, rfl⟩ := hs.len
    obtain ⟨p, pc, rfl⟩ := hu.len
    generalize checkN d s vs = C at *
    have hc' : (C != 0) = true := by rw [bne_iff_ne]; exact hc
    clear hs hu hb hc HC0
    go_enter Try.func8, Try.ntmps8
    go_wp2_with fail
    refine HC.out.mono ?_; rintro e w1 ⟨rfl, hb1⟩
    have HB1 := Lib.hid hb1
    clear hb1
    go_wp2_with fail
    go_ret2
    exact ⟨rfl, HB1.out⟩
  · rw [gainR_ok hc]
    rw [costR_ok hc] at HC
    obtain ⟨hw, hvs⟩ := check_ok hc
    have hc2 : checkN d s [] = 0 := check_yes hw (fun k hk => nomatch hk)
    rw [costR_ok hc2] at HC0
    obtain ⟨k, rfl, hk1, hk6, hlen, hok⟩ := wrong_ok hw
    have hp := pow64 hk6
    have hr1 := cost_range hok (by omega) (by omega) hvs
    have hr2 := cost_range (vs := []) hok (by omega) (by omega) (fun v hv => nomatch hv)
    generalize costN s vs = C1 at *
    generalize costN s [] = C2 at *
    have hww : wrap64 (C2 - C1) = C2 - C1 := wrap64_in (by omega) (by omega)
    have hww2 : IntKind.i64.wrap (C2 - C1) = C2 - C1 := IntWalk.i64_in _ (by omega)
    obtain ⟨q, qc, rfl⟩ := hs.len
    obtain ⟨p, pc, rfl⟩ := hu.len
    clear hs hu hb hc hw hvs hok hlen hp hk1 hk6 hc2 hr1 hr2
    go_enter Try.func8, Try.ntmps8
    go_wp2_with fail
    refine HC.out.mono ?_; rintro e w1 ⟨rfl, hb1⟩
    have HB1 := Lib.hid hb1
    have HC1 := Lib.hid (HC0.out w1 hb1)
    clear hb1 HC HC0
    go_wp2_with fail
    refine HC1.out.mono ?_; rintro e w2 ⟨rfl, hb2⟩
    have HB2 := Lib.hid (below_then HB1.out hb2)
    clear hb2 HC1 HB1
    go_wp2_with fail
    go_ret2
    exact ⟨rfl, HB2.out⟩
end Go.Proofs.Ytifbmdophoemjaa
