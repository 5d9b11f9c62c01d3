/- KeyOf: for any schema, any set and any codes the statement's function returns true and changes nothing that was there. No condition. -/
import Derived.Test.YtgbeedjcliajfaaKeyj
import Derived.ProofKit
namespace Go.Proofs.Ytgbeedjcliajfaa.keyOf
set_option maxRecDepth 100000
open Go.ChangeShapes Go.WideShapes Go.ChangeAt Go.RowKit
set_option linter.unusedVariables false
theorem own : ownKnob Try.prog.godebug = none := by kernel_rfl
theorem laidOut : laidOutB Try.prog = true := by kernel_rfl
/-- The five answers of both sides. -/
theorem of_cases (S : Sc) (m : Int) (l : List Int) :
    (checkL S ≠ 0 ∧ ofE S m l = 1 ∧ ofL S m l = 0) ∨ (checkL S = 0 ∧ ¬ m < 2 ^ S.ds.length ∧ ofE S m l = 11 ∧ ofL S m l = 0) ∨ (checkL S = 0 ∧ m < 2 ^ S.ds.length ∧ l.length ≠ S.ds.length ∧ ofE S m l = 3 ∧ ofL S m l = 0) ∨ (checkL S = 0 ∧ m < 2 ^ S.ds.length ∧ l.length = S.ds.length) := by
  have hf : fullL S.ds = 2 ^ S.ds.length - 1 := rfl
  by_cases h1 : checkL S = 0
  · by_cases h2 : m < 2 ^ S.ds.length
    · by_cases h3 : l.length = S.ds.length
      · exact .inr (.inr (.inr ⟨h1, h2, h3⟩))
      · have hn : numE S m = 0 := by unfold numE; rw [if_pos h1, if_pos (by omega)]
        have hE : ofE S m l = 3 := by unfold ofE; rw [if_pos hn, if_neg h3]
        exact .inr (.inr (.inl ⟨h1, h2, h3, hE, by unfold ofL; rw [if_neg (by rw [hE]; decide)]⟩))
    · have hE : ofE S m l = 11 := by unfold ofE numE; rw [if_pos h1, if_neg (show ¬ m ≤ fullL S.ds by omega), if_neg (by decide)]
      exact .inr (.inl ⟨h1, h2, hE, by unfold ofL; rw [if_neg (by rw [hE]; decide)]⟩)
  · have hE : ofE S m l = 1 := by unfold ofE numE; rw [if_neg h1, if_neg (by decide)]
    exact .inl ⟨h1, hE, by unfold ofL; rw [if_neg (by rw [hE]; decide)]⟩
/-- What both sides say where there is a key. -/
theorem of_good {S : Sc} {m : Int} {l : List Int} (h1 : checkL S = 0) (h2 : m < 2 ^ S.ds.length) (h3 : l.length = S.ds.length) (h : ∀ k, k < S.ds.length → rngAt S.ds m l k = true) :
    ofE S m l = 0 ∧ ofL S m l = keyG (dz S.ds) (cz l) (bitG m) S.ds.length ∧ InG (dz S.ds) (cz l) (bitG m) S.ds.length ∧ 0 ≤ ofL S m l ∧ ofL S m l ≤ 18446744073709551615 ∧ codE S m (ofL S m l) = 0 ∧ ∀ k, k < S.ds.length → cz (codesL S.ds m (ofL S m l)) k = if bitG m k = true then cz l k else -1 := by
  have hf : fullL S.ds = 2 ^ S.ds.length - 1 := rfl
  have hn : numE S m = 0 := by unfold numE; rw [if_pos h1, if_pos (by omega)]
  have hE : ofE S m l = 0 := by unfold ofE; rw [if_pos hn, if_pos h3, if_pos (rng_good h)]
  have hK : ofL S m l = keyG (dz S.ds) (cz l) (bitG m) S.ds.length := by unfold ofL; rw [if_pos hE]
  have hI := rng_in h
  obtain ⟨-, hz⟩ := sc_few h1
  have hf := key_fits hz hI
  refine ⟨hE, hK, hI, by rw [hK]; omega, by rw [hK]; omega, ?_, fun k hk => ?_⟩
  · unfold codE; rw [if_pos hn, if_neg (by rw [hK]; omega)]
  · rw [codes_get _ _ _ hk, hK]
    by_cases hb : bitG m k = true
    · rw [if_pos hb]; exact code_of_key (sizes_one hz) hI hk hb
    · rw [if_neg hb]; unfold codG; rw [if_neg hb]
theorem of_range {S : Sc} {m : Int} {l : List Int} (h1 : checkL S = 0) (h2 : m < 2 ^ S.ds.length) (h3 : l.length = S.ds.length) (h : rngB S.ds m l = false) : ofE S m l = 2 ∧ ofL S m l = 0 := by
  have hf : fullL S.ds = 2 ^ S.ds.length - 1 := rfl
  have hn : numE S m = 0 := by unfold numE; rw [if_pos h1, if_pos (by omega)]
  have hE : ofE S m l = 2 := by unfold ofE; rw [if_pos hn, if_pos h3, if_neg (by rw [h]; decide)]
  exact ⟨hE, by unfold ofL; rw [if_neg (by rw [hE]; decide)]⟩
set_option maxHeartbeats 8000000 in
theorem walk (D I M V : Value) (S : Sc) (m : Int) (u : Value) (l : List Int) (w : World) (h : Sch4 w D I M V S) (hw : SWf S) (hm : 0 ≤ m ∧ m ≤ 4294967295) (hu : Ints .i64 w u l) :
    Calls Try.prog 3 #[SchV D I M V, .int .u32 m, u] w fun e w' => e = .returned (.bool true) ∧ Below w.heap.size w w' := by
  have HA := Lib.hid (fun w => awake13_any w)
  have HB0 := Lib.hid (below_one w (SchO D I M V))
  have HX := Lib.hid (box_new w D I M V)
  have HL := Lib.hid (fun w1 (hb : Below w.heap.size w w1) => slight_any w1 D I M V S (h.below hb))
  have HO := Lib.hid (fun w1 (hb : Below w.heap.size w w1) => of_any w1 D I M V u S m l (h.below hb) hw (hu.below hb) hm.1 hm.2)
  have HC := Lib.hid (fun w1 (hb : Below w.heap.size w w1) => rcheck_any w1 D I M V S (h.below hb) hw)
  have HF := Lib.hid (fun w1 (hb : Below w.heap.size w w1) (hn : S.ds.length ≤ 6) => rfull_any w1 D I M V S (h.below hb) hn)
  have HSu := Lib.hid (fun w1 (hn : S.ds.length ≤ 6) => ssub_any w1 m S.ds.length hn hm.1 hm.2)
  have HI := Lib.hid (fun w k (hk : k ≤ 31) => (rin_any w m k hk hm.1 hm.2).mono fun _ _ h => And.intro h.1 h.2.symm)
  have HU := Lib.hid hu
  have HQ := Lib.hid h
  have HW := Lib.hid hw
  have HMm := Lib.hid hm
  have hd := h.d
  obtain ⟨⟨p, cc, rfl⟩, ⟨p2, c2, rfl⟩, ⟨p3, c3, rfl⟩, p4, c4, rfl⟩ := h.slices
  obtain ⟨a', cap', e', h1, h2, h3⟩ := hd
  obtain ⟨rfl, rfl⟩ : p = a' ∧ cc = cap' := by injection e' with e1 e2 e3; exact ⟨e1, e3⟩
  have HDc := Lib.hid h3
  obtain ⟨q0, d0, rfl, -, -⟩ := hu
  have HCs := Lib.hid (of_cases S m l)
  clear h hw hm e' h3
  go_enter Try.func3, Try.ntmps3
  go_upto_region 1 with fail
  generalize w.alloc (SchO (.slice p S.ds.length cc) (.slice p2 S.is.length c2) (.slice p3 S.ns.length c3) (.slice p4 S.vs.length c4)) = W at *
  obtain ⟨x0, x1, x2, x3⟩ := HX.out.reads
  go_wp2_with fail
  refine (HL.out _ HB0.out).mono ?_; rintro e w1 ⟨⟨bl, rfl⟩, hb⟩
  have HB1 := Lib.hid hb
  obtain ⟨y0, y1, y2, y3⟩ := quad_hold hb ⟨x0, x1, x2, x3⟩
  clear hb x0 x1 x2 x3
  have hlens : bl = false ∨ (bl = true ∧ 100 < l.length) ∨ (bl = true ∧ l.length ≤ 100) := by cases bl <;> simp; omega
  rcases hlens with rfl | ⟨rfl, k0⟩ | ⟨rfl, k0⟩
  · go_wp2_with fail
    refine (HA.out _).mono ?_; rintro e w2 ⟨rfl, hb⟩
    have HB2 := Lib.hid (below_then HB1.out hb)
    clear hb
    go_wp2_with fail
    go_ret
    exact ⟨rfl, below_then HB0.out HB2.out⟩
  · go_wp2_with fail
    refine (HA.out _).mono ?_; rintro e w2 ⟨rfl, hb⟩
    have HB2 := Lib.hid (below_then HB1.out hb)
    clear hb
    go_wp2_with fail
    go_ret
    exact ⟨rfl, below_then HB0.out HB2.out⟩
  · go_wp2_with fail
    refine (HO.out _ (below_then HB0.out HB1.out)).mono ?_; rintro e w2 ⟨rfl, hb⟩
    have HB2 := Lib.hid (below_then HB1.out hb)
    obtain ⟨x0, x1, x2, x3⟩ := quad_hold hb ⟨y0, y1, y2, y3⟩
    clear hb y0 y1 y2 y3 HO HL
    rcases HCs.out with ⟨g1, g2, g3⟩ | ⟨g1, g2, g3, g4⟩ | ⟨g1, g2, g3, g4, g5⟩ | ⟨g1, g2, g3⟩
    · rw [g2, g3]
      have hne : ((checkL S : Int) != 0) = true := by simp; omega
      generalize (checkL S : Int) = ck at *
      clear g1 g2 g3
      go_wp2_with fail
      refine (HC.out _ (below_then HB0.out HB2.out)).mono ?_; rintro e w3 ⟨rfl, hb⟩
      have HB3 := Lib.hid (below_then HB2.out hb)
      clear hb x0 x1 x2 x3
      go_wp2_with fail
      refine wp_loop_rounds 1 ?_
      rw [rounds_succ]
      go_wp2_with fail
      refine (HA.out _).mono ?_; rintro e w4 ⟨rfl, hb⟩
      have HB4 := Lib.hid (below_then HB3.out hb)
      clear hb
      go_wp2_with fail
      go_ret
      exact ⟨rfl, below_then HB0.out HB4.out⟩
    · rw [g3, g4]
      rw [g1] at HC
      have hn6 := (sc_few g1).1
      have HSf := Lib.hid (fun w => HSu.out w hn6)
      have HFf := Lib.hid (fun w hb => HF.out w hb hn6)
      have hfe : fullL S.ds = 2 ^ S.ds.length - 1 := rfl
      rw [decide_eq_false (by omega), ← hfe] at HSf
      generalize fullL S.ds = fu at *
      clear g1 g2 g3 g4 hfe
      go_wp2_with fail
      refine (HC.out _ (below_then HB0.out HB2.out)).mono ?_; rintro e w3 ⟨rfl, hb⟩
      have HB3 := Lib.hid (below_then HB2.out hb)
      obtain ⟨y0, y1, y2, y3⟩ := quad_hold hb ⟨x0, x1, x2, x3⟩
      clear hb x0 x1 x2 x3
      go_wp2_with fail
      refine (HFf.out _ (below_then HB0.out HB3.out)).mono ?_; rintro e w4 ⟨rfl, hb⟩
      have HB4 := Lib.hid (below_then HB3.out hb)
      clear hb y0 y1 y2 y3
      go_wp2_with fail
      refine (HSf.out _).mono ?_; rintro e w5 ⟨rfl, rfl⟩
      go_wp2_with fail
      refine wp_loop_rounds 1 ?_
      rw [rounds_succ]
      go_wp2_with fail
      refine (HA.out _).mono ?_; rintro e w6 ⟨rfl, hb⟩
      have HB6 := Lib.hid (below_then HB4.out hb)
      clear hb
      go_wp2_with fail
      go_ret
      exact ⟨rfl, below_then HB0.out HB6.out⟩
    · rw [g4, g5]
      rw [g1] at HC
      have hn6 := (sc_few g1).1
      have HSf := Lib.hid (fun w => HSu.out w hn6)
      have HFf := Lib.hid (fun w hb => HF.out w hb hn6)
      have hfe : fullL S.ds = 2 ^ S.ds.length - 1 := rfl
      rw [decide_eq_true g2, ← hfe] at HSf
      have hnl : ((l.length : Int) != (S.ds.length : Int)) = true := by simp; omega
      generalize fullL S.ds = fu at *
      clear g1 g2 g3 g4 hfe
      go_wp2_with fail
      refine (HC.out _ (below_then HB0.out HB2.out)).mono ?_; rintro e w3 ⟨rfl, hb⟩
      have HB3 := Lib.hid (below_then HB2.out hb)
      obtain ⟨y0, y1, y2, y3⟩ := quad_hold hb ⟨x0, x1, x2, x3⟩
      clear hb x0 x1 x2 x3
      go_wp2_with fail
      refine (HFf.out _ (below_then HB0.out HB3.out)).mono ?_; rintro e w4 ⟨rfl, hb⟩
      have HB4 := Lib.hid (below_then HB3.out hb)
      obtain ⟨x0, x1, x2, x3⟩ := quad_hold hb ⟨y0, y1, y2, y3⟩
      clear hb y0 y1 y2 y3
      go_wp2_with fail
      refine (HSf.out _).mono ?_; rintro e w5 ⟨rfl, rfl⟩
      go_wp2_with fail
      refine wp_loop_rounds 1 ?_
      rw [rounds_succ]
      go_wp2_with fail
      refine (HA.out _).mono ?_; rintro e w6 ⟨rfl, hb⟩
      have HB6 := Lib.hid (below_then HB4.out hb)
      clear hb
      go_wp2_with fail
      go_ret
      exact ⟨rfl, below_then HB0.out HB6.out⟩
    · have HRg := Lib.hid (fun q => of_range g1 g2 g3 q)
      have HGd := Lib.hid (fun q => of_good g1 g2 g3 q)
      obtain ⟨hn6, hz⟩ := sc_few g1
      rw [g1] at HC
      have HSf := Lib.hid (fun w => HSu.out w hn6)
      have HFf := Lib.hid (fun w hb => HF.out w hb hn6)
      have hfe : fullL S.ds = 2 ^ S.ds.length - 1 := rfl
      rw [decide_eq_true g2, ← hfe] at HSf
      have HQ2 := Lib.hid (And.intro hz (And.intro g3 hfe))
      rw [g3] at HU ⊢
      generalize hfu : fullL S.ds = fu at *
      clear g1 g2 g3 hfe hfu hz
      go_wp2_with fail
      refine (HC.out _ (below_then HB0.out HB2.out)).mono ?_; rintro e w3 ⟨rfl, hb⟩
      have HB3 := Lib.hid (below_then HB2.out hb)
      obtain ⟨y0, y1, y2, y3⟩ := quad_hold hb ⟨x0, x1, x2, x3⟩
      clear hb x0 x1 x2 x3
      go_wp2_with fail
      refine (HFf.out _ (below_then HB0.out HB3.out)).mono ?_; rintro e w4 ⟨rfl, hb⟩
      have HB4 := Lib.hid (below_then HB3.out hb)
      obtain ⟨x0, x1, x2, x3⟩ := quad_hold hb ⟨y0, y1, y2, y3⟩
      clear hb y0 y1 y2 y3
      go_wp2_with fail
      refine (HSf.out _).mono ?_; rintro e w5 ⟨rfl, rfl⟩
      go_wp2_with fail
      clear x0 x1 x2 x3
      go_loopw [9, 10] (fun wv iv wr => ∃ k : Nat, k ≤ S.ds.length ∧ iv = .int .i64 k ∧ Hid (Below W.heap.size W wr) ∧ ((wv = .int .i64 0 ∧ Hid (∀ j, j < k → rngAt S.ds m l j = true)) ∨ (wv = .int .i64 2 ∧ Hid (rngB S.ds m l = false)))) (fun _ iv _ => S.ds.length - (intOf iv).toNat)
      case atStart => exact ⟨0, Nat.zero_le _, rfl, HB4, .inl ⟨rfl, Lib.hid (fun j hj => by omega)⟩⟩
      case round =>
        obtain ⟨k, hk, rfl, HB, ⟨rfl, HJ⟩ | ⟨rfl, HJ⟩⟩ := hrel
        · obtain ⟨x0, x1, x2, x3⟩ := (HX.out.below HB.out).reads
          by_cases hlk : k < S.ds.length
          · have hlk' : (k : Int) < (S.ds.length : Int) := by omega
            have hle : Hid (k + 1 ≤ S.ds.length) := Lib.hid (by omega)
            have HIk := Lib.hid (fun w => HI.out w k (by omega))
            rcases HDc.out with h3 | ⟨b, off, rfl, hlt, hcell⟩
            · rw [h3] at hlk; simp at hlk
            obtain ⟨b0, o0, ha0, hb0, hc0⟩ := HU.out.cell (i := k) (by have := HQ2.out.2.1; omega)
            subst ha0
            have hc0 := cell_later (below_then HB0.out HB.out) hc0
            have g0 : wr.cell? ⟨b0, o0 + k, none⟩ = some (.int .i64 (cz l k)) := hc0
            have g1 := cell_later (below_then HB0.out HB.out) (hcell k hlk).2
            have HNx := Lib.hid (fun (q : rngAt S.ds m l k = true) => fun j (hj : j < k + 1) => if e : j = k then (e ▸ q : rngAt S.ds m l j = true) else HJ.out j (by omega))
            have HBk := Lib.hid (fun q => rng_bad (m := m) (l := l) hlk q)
            have hAk : rngAt S.ds m l k = (!bitG m k || (decide (0 ≤ cz l k) && decide (cz l k < dz S.ds k))) := rfl
            clear hcell hc0
            generalize rngAt S.ds m l k = t at *
            generalize cz l k = y at *
            generalize dz S.ds k = z at *
            generalize bitG m k = bt at *
            cases bt with
            | false =>
              have HN2 := Lib.hid (HNx.out (by rw [hAk]; rfl))
              clear HNx HBk hAk g0 g1
              go_upto_region 14 with fail
              go_quiet ((go_at_call 13; exact Calls.quiet_of_same (HIk.out _)))
              have HB5 := Lib.hid (below_drewN HB.out nq)
              go_wp2
              go_roundw
              case rel => exact ⟨k + 1, hle.out, by go_num, HB5, .inl ⟨rfl, HN2⟩⟩
              case measure => simp [intOf]; omega
            | true =>
              by_cases hy0 : y < 0
              · have HR := Lib.hid (HBk.out (by rw [hAk, decide_eq_false (p := 0 ≤ y) (by omega)]; rfl))
                clear HNx HBk hAk
                go_upto_region 14 with fail
                go_quiet ((go_at_call 13; exact Calls.quiet_of_same (HIk.out _)))
                have HB5 := Lib.hid (below_drewN HB.out nq)
                go_wp2
                go_roundw
                case rel => exact ⟨k + 1, hle.out, by go_num, HB5, .inr ⟨rfl, HR⟩⟩
                case measure => simp [intOf]; omega
              · by_cases hyz : z ≤ y
                · have HR := Lib.hid (HBk.out (by rw [hAk, decide_eq_false (p := y < z) (by omega)]; simp))
                  clear HNx HBk hAk
                  go_upto_region 14 with fail
                  go_quiet ((go_at_call 13; exact Calls.quiet_of_same (HIk.out _)))
                  have HB5 := Lib.hid (below_drewN HB.out nq)
                  go_wp2
                  go_roundw
                  case rel => exact ⟨k + 1, hle.out, by go_num, HB5, .inr ⟨rfl, HR⟩⟩
                  case measure => simp [intOf]; omega
                · have HN2 := Lib.hid (HNx.out (by rw [hAk]; simp; omega))
                  clear HNx HBk hAk
                  go_upto_region 14 with fail
                  go_quiet ((go_at_call 13; exact Calls.quiet_of_same (HIk.out _)))
                  have HB5 := Lib.hid (below_drewN HB.out nq)
                  go_wp2
                  go_roundw
                  case rel => exact ⟨k + 1, hle.out, by go_num, HB5, .inl ⟨rfl, HN2⟩⟩
                  case measure => simp [intOf]; omega
          · have hke : k = S.ds.length := by omega
            subst hke
            obtain ⟨t1, t2, t3, t4, t5, t6, t7⟩ := HGd.out HJ.out
            have HCd := Lib.hid (fun w1 (hb : Below w.heap.size w w1) => codes_any w1 _ _ _ _ S m (ofL S m l) (HQ.out.below hb) HW.out HMm.out.1 HMm.out.2 t4 t5)
            have HRf := Lib.hid (fun w1 (hb : Below w.heap.size w w1) => rof_any w1 _ _ _ _ _ S m l (HQ.out.below hb) (HU.out.below hb) (by omega) HQ2.out.2.1 HQ2.out.1 t3 HMm.out.1 HMm.out.2)
            have HCo := Lib.hid (fun w1 (hb : Below w.heap.size w w1) (i : Nat) (hi : i < S.ds.length) => show Calls _ _ _ _ _ from by
              have := code_any w1 _ _ _ _ S m (ofL S m l) i (HQ.out.below hb) HW.out HMm.out.1 HMm.out.2 t4 t5
              rw [show codeL S m (ofL S m l) i = if bitG m i = true then cz l i else -1 by unfold codeL; rw [if_pos ⟨t6, by omega, by omega⟩, Int.toNat_natCast]; exact t7 i hi] at this
              exact this)
            rw [← t2] at HRf
            unfold CodesR at HCd
            rw [t6, if_pos rfl] at HCd
            rw [t1]
            have HL7 := Lib.hid t7
            have hln := codes_len S.ds m (ofL S m l)
            have HLn := Lib.hid hln
            clear t1 t2 t3 t4 t5 t6 t7 hln
            generalize ofL S m l = K at *
            generalize codesL S.ds m K = L at *
            have hKK : (K != K) = false := by simp
            go_wp2_with fail
            refine (HCd.out _ (below_then HB0.out HB.out)).mono ?_; rintro e w6 ⟨⟨v, rfl, hv⟩, hb⟩
            have HB6 := Lib.hid (below_then HB.out hb)
            have hV := Ints.own hv
            obtain ⟨pa, pc, rfl, -, -⟩ := id hV
            have HV := Lib.hid hV
            rw [HLn.out] at HV ⊢
            obtain ⟨y0, y1, y2, y3⟩ := quad_hold hb ⟨x0, x1, x2, x3⟩
            clear hb x0 x1 x2 x3 hv hV
            go_wp2_with fail
            refine (HRf.out _ (below_then HB0.out HB6.out)).mono ?_; rintro e w7 ⟨rfl, hb⟩
            have HB7 := Lib.hid (below_then HB6.out hb)
            have HV7 := Lib.hid (HV.out.below hb)
            clear hb y0 y1 y2 y3
            go_wp2_with fail
            go_loopw [13] (fun iv wr => ∃ k : Nat, k ≤ S.ds.length ∧ iv = .int .i64 k ∧ Hid (Below W.heap.size W wr ∧ Below w7.heap.size w7 wr)) (fun iv _ => S.ds.length - (intOf iv).toNat)
            case atStart => exact ⟨0, Nat.zero_le _, rfl, Lib.hid ⟨HB7.out, Below.refl _ _⟩⟩
            case round =>
              obtain ⟨k, hk, rfl, HBB⟩ := hrel
              by_cases hlk : k < S.ds.length
              · have hlk' : (k : Int) < (S.ds.length : Int) := by omega
                have hle : Hid (k + 1 ≤ S.ds.length) := Lib.hid (by omega)
                have HIk := Lib.hid (fun w => HI.out w k (by omega))
                have HCk := Lib.hid (fun w1 hb => HCo.out w1 hb k hlk)
                obtain ⟨b0, o0, ha0, hb0, hc0⟩ := HU.out.cell (i := k) (by have := HQ2.out.2.1; omega)
                subst ha0
                have hc0 := cell_later (below_then HB0.out HBB.out.1) hc0
                have g0 : wr.cell? ⟨b0, o0 + k, none⟩ = some (.int .i64 (cz l k)) := hc0
                obtain ⟨b1, o1, ha1, hb1, hc1⟩ := HV7.out.cell (i := k) (by have := HLn.out; omega)
                subst ha1
                have hc1 := cell_later HBB.out.2 hc1
                have g1 : wr.cell? ⟨b1, o1 + k, none⟩ = some (.int .i64 (if bitG m k = true then cz l k else -1)) := by rw [← HL7.out k hlk]; exact hc1
                obtain ⟨x0, x1, x2, x3⟩ := (HX.out.below HBB.out.1).reads
                clear hc0 hc1
                generalize cz l k = y at *
                generalize bitG m k = bt at *
                cases bt with
                | true =>
                  simp only [if_true] at g1 HCk
                  have hyy : (y != y) = false := by simp
                  go_wp2_with fail
                  refine (HIk.out _).mono ?_; rintro e w8 ⟨rfl, rfl⟩
                  go_wp2_with fail
                  refine (HCk.out _ (below_then HB0.out HBB.out.1)).mono ?_; rintro e w9 ⟨rfl, hb⟩
                  have HB9 := Lib.hid (And.intro (below_then HBB.out.1 hb) (below_then HBB.out.2 hb))
                  clear hb x0 x1 x2 x3 g0 g1
                  go_wp2_with fail
                  go_roundw
                  case rel => exact ⟨k + 1, hle.out, by go_num, HB9⟩
                  case measure => simp [intOf]; omega
                | false =>
                  simp only [Bool.false_eq_true, if_false] at g1 HCk
                  go_wp2_with fail
                  refine (HIk.out _).mono ?_; rintro e w8 ⟨rfl, rfl⟩
                  go_wp2_with fail
                  refine (HCk.out _ (below_then HB0.out HBB.out.1)).mono ?_; rintro e w9 ⟨rfl, hb⟩
                  have HB9 := Lib.hid (And.intro (below_then HBB.out.1 hb) (below_then HBB.out.2 hb))
                  clear hb x0 x1 x2 x3 g0 g1
                  go_wp2_with fail
                  go_roundw
                  case rel => exact ⟨k + 1, hle.out, by go_num, HB9⟩
                  case measure => simp [intOf]; omega
              · have hke : k = S.ds.length := by omega
                subst hke
                go_wp2_with fail
                refine (HA.out _).mono ?_; rintro e w8 ⟨rfl, hb⟩
                have HB8 := Lib.hid (below_then HBB.out.1 hb)
                clear hb
                go_wp2_with fail
                go_ret
                exact ⟨rfl, below_then HB0.out HB8.out⟩
        · obtain ⟨r1, r2⟩ := HRg.out HJ.out
          rw [r1, r2]
          go_wp2_with fail
          refine (HA.out _).mono ?_; rintro e w6 ⟨rfl, hb⟩
          have HB6 := Lib.hid (below_then HB.out hb)
          clear hb
          go_wp2_with fail
          go_ret
          exact ⟨rfl, below_then HB0.out HB6.out⟩
set_option maxRecDepth 100000 in
theorem lifted (os : Os) (started : os.Started) (H : Type) (enc : TypeId × Value → H) :
    ReturnsInHanded {} Try.checked os 3 .any (Rows.keyOfSpec.pre6 enc Try.prog Try.f3 Rows.keyOfRow.domain false) (Rows.keyOfSpec.post enc Try.prog Try.f3 false true false false) := by
  refine returnsInHanded_of_change (C := Try.checked) own started (by kernel_rfl) Try.func3
    (ChangeSpec.witness6 (enc := enc) (C := Try.checked) false ⟨#[], #[.agg #[.slice none 0 0, .slice none 0 0, .slice none 0 0, .slice none 0 0], .int .u32 0, .slice none 0 0], []⟩ 8 (by kernel_rfl) (by kernel_rfl) (by kernel_rfl) (by kernel_rfl)) ?_
  intro W base args ds gs before hval0 hW hcnd _
  have hval : ∀ (j : Nat) t v, Try.f3.params[j]? = some t → args[j]? = some v → Value.okWide Try.prog W .any base t v := hval0
  have hW' := hW
  obtain ⟨p, q, hA0, hV, rfl, hfz, hnd⟩ := hW
  have hA : DataW.TrodAll enc Try.prog W 0 (fun _ => true) true Try.f3.params.toList args.toList ds p := hA0
  rw [Try.params3] at hA hval
  obtain ⟨v0, vs0, d0, ds0, p0, q0, hargs, rfl, rfl, h0, r0⟩ := trodAll_cons hA
  obtain ⟨v1, vs1, d1, ds1, p1, q1, rfl, rfl, rfl, h1, r1⟩ := trodAll_cons r0
  obtain ⟨v2, vs2, d2, ds2, p2, q2, rfl, rfl, rfl, h2, r2⟩ := trodAll_cons r1
  obtain ⟨rfl, rfl, rfl⟩ := trodAll_nil r2
  obtain rfl : args = #[v0, v1, v2] := by cases args; simp_all
  obtain ⟨rfl, rfl⟩ := trodVars_none hV
  have k0 := h0
  have lt0 : ∀ x ∈ p0, x.block < W.heap.size := by obtain ⟨m, hm⟩ := k0; exact DataW.trod_lt m _ _ _ hm
  obtain ⟨D0, I0, N0, V0, S0, rfl, s0, w0⟩ := schema_of (hval 0 26 v0 rfl rfl) h0
  obtain ⟨a1, rfl, rfl, rfl, w1⟩ := open_int Try.underlying27 (hval 1 27 v1 rfl rfl) h1
  have k2 := h2
  have lt2 : ∀ x ∈ p2, x.block < W.heap.size := by obtain ⟨m, hm⟩ := k2; exact DataW.trod_lt m _ _ _ hm
  obtain ⟨a2, len2, cap2, rfl⟩ := okWide_slice Try.underlying28 (hval 2 28 v2 rfl rfl)
  obtain ⟨l2, s2⟩ := codes_of h2 ⟨_, _, _, rfl⟩
  clear hA0 hval0
  refine (walk D0 I0 N0 V0 S0 a1 (.slice a2 len2 cap2) l2 W s0 w0 (bounds_u32 w1) s2).mono fun e W' ⟨he, bel⟩ => ?_
  subst he
  exact ⟨_, rfl, _, _, _, [], _, [], hW', trodAll_mk1 (shut_bool Try.underlying4 _), (trodAll_cons_mk (Below.trod laidOut (by kernel_rfl) (of_decide_eq_true (by kernel_rfl)) k0 bel lt0) (trodAll_cons_mk (shut_int Try.underlying27 w1) (trodAll_cons_mk (Below.trod laidOut (by kernel_rfl) (of_decide_eq_true (by kernel_rfl)) k2 bel lt2) trodAll_mk0))), rfl, bel.frame _, fun h => by cases h⟩

theorem over : Rows.keyOfRow.holds Try.pinned (OpenSpec.ofChange Rows.keyOfSpec) :=
  OpenClaim.holds_of_wide 3 Try.f3 rfl rfl rfl rfl rfl rfl rfl ⟨rfl, rfl, rfl, rfl, rfl⟩ rfl rfl rfl rfl rfl (by kernel_rfl) Try.func3 (by kernel_rfl)
    (of_decide_eq_true (by kernel_rfl)) (by unfold Func.isWrapper; first | (rw [if_pos (by decide +kernel)]; kernel_rfl) | (rw [if_neg (by decide +kernel)]; exact ⟨rfl, rfl⟩))
    (fun os started H enc _ => lifted os started H enc)
end Go.Proofs.Ytgbeedjcliajfaa.keyOf
namespace Go.Proofs.Ytgbeedjcliajfaa
/-- The statement. -/
theorem keyOf_holds : Rows.KeyOfSaid := keyOf.over
#print axioms keyOf_holds
end Go.Proofs.Ytgbeedjcliajfaa
