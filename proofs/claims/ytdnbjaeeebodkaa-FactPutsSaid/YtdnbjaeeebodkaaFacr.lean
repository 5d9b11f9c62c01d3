/- Layer 12: the program's Get. -/
import Derived.Test.YtdnbjaeeebodkaaFacq
import Derived.Test.YtdnbjaeeebodkaaFacj
namespace Go.Proofs.Ytdnbjaeeebodkaa
set_option maxRecDepth 100000
open Go.RowKit
set_option linter.unusedVariables false
/-- The error of getting, and what is got. -/
def getGE (S : Sc) (b : List Int) : Nat := if checkL S ≠ 0 then 1 else getBE b (mostsS S) S.is.length S.ns.length
def getGF (S : Sc) (b : List Int) : List Fa := if getGE S b = 0 then (rdB b (mostsS S) S.is.length S.ns.length).1 else []
theorem numB_err {b : List Int} (hb : Bt b) (h : (numB b).2.2 ≠ 0) : (numB b).1 = 0 := by
  unfold numB stU at h ⊢
  rw [if_pos rfl] at h ⊢
  simp only at h ⊢
  exact (uN_fit 200 (hb.drop 0)).2.2 h
theorem getBE_end {b : List Int} (hb : Bt b) (ms : List Int) (ni nn : Nat) (h : ¬ ((numB b).2.2 = 0 ∧ (numB b).1 = 0)) : getBE b ms ni nn = endE b (rdB b ms ni nn).2 := by
  unfold getBE
  by_cases he : (numB b).2.2 = 0
  · rw [if_neg (by omega), if_neg (by intro q; exact h ⟨he, q⟩)]
  · have e0 := numB_err hb he
    rw [if_pos he]
    unfold rdB
    rw [e0]
    show _ = endE b (numB b).2
    unfold endE
    rw [if_neg (by omega)]
theorem getBE_many {b : List Int} (ms : List Int) (ni nn : Nat) (h1 : (numB b).2.2 = 0) (h2 : (numB b).1 = 0) : getBE b ms ni nn = 3 := by
  unfold getBE
  rw [if_neg (by omega), if_pos h2]
theorem fault_st (w : World) (N : Nat) (b : List Int) (s : Nat × Nat) (h : InAt w N b s.1 s.2) (h9 : s.2 < 9) :
    Calls Try.prog 42 #[.pointer (some ⟨N, 0, none⟩)] w fun r w' => (∃ p : Int, r = .returned (.tuple #[.int .i64 p, .int .i64 s.2])) ∧ w = w' := by
  obtain ⟨p, e⟩ := s
  simp only at h h9
  by_cases he : e = 0
  · subst he
    refine (fault_ok w N b p h).mono ?_
    rintro r w' ⟨rfl, rfl⟩
    exact ⟨⟨0, rfl⟩, rfl⟩
  · refine (fault_err w N b p e h he h9).mono ?_
    rintro r w' ⟨rfl, rfl⟩
    exact ⟨⟨p, rfl⟩, rfl⟩
/-- What getting leaves. -/
def GotF (w w' : World) (S : Sc) (b : List Int) (r : Ending) : Prop := (∃ u, r = .returned (.tuple #[u, .int .i64 (getGE S b : Nat)]) ∧ Facts w' u (getGF S b)) ∧ Below w.heap.size w w'
theorem facts0 (w : World) : Facts w (.slice none 0 0) [] := ⟨none, 0, rfl, by simp, by simp, .inl rfl⟩
set_option maxHeartbeats 8000000 in
theorem fget_any (w : World) (D I M V v : Value) (S : Sc) (b : List Int) (h : Sch4 w D I M V S) (hw : SWf S) (hv : Ints .u8 w v b) (hb : Bt b) (hl : b.length ≤ 20000) :
    Calls Try.prog 16 #[SchV D I M V, v] w fun r w' => GotF w w' S b r := by
  have HB0 := Lib.hid (below_one w (SchO D I M V))
  have HX := Lib.hid (box_new w D I M V)
  have HC := Lib.hid (check_any (w.alloc (SchO D I M V)) D I M V S (h.below HB0.out) hw)
  have HNw := Lib.hid (fun w1 (hb1 : Below w.heap.size w w1) => newin_any v b w1 (hv.below hb1) hb hl)
  have hn0 := numB_val hb
  have hst : OkSt b (numB b).2 := stU_st hb _ ⟨Nat.zero_le _, by decide⟩
  have HU := Lib.hid (fun w1 N (hi : InAt w1 N b 0 0) => show Calls Try.prog 41 #[.pointer (some ⟨N, 0, none⟩), .int .u64 200] w1 fun r w' => r = .returned (.int .u64 (numB b).1) ∧ InAt w' N b (numB b).2.1 (numB b).2.2 ∧ w1.grownBy w' (some N) from inU_st w1 N b (0, 0) 200 hi (by decide))
  have HFt := Lib.hid (fun w1 N (hi : InAt w1 N b (numB b).2.1 (numB b).2.2) => fault_st w1 N b (numB b).2 hi hst.2)
  by_cases hc : checkL S = 0
  · have hcn := cnt_iff.1 (check_cnt' hc).1
    obtain ⟨n, hn⟩ : ∃ n : Nat, (numB b).1 = n := ⟨(numB b).1.toNat, by omega⟩
    have HGf := Lib.hid (fun w1 N (hb1 : Below w.heap.size w w1) (hN : w.heap.size ≤ N) (hi : InAt w1 N b (numB b).2.1 (numB b).2.2) => getFacts_any w w1 D I M V S N b (numB b).2 n h hb1 hN hi hst hb (by omega) (fun k hk => check_siz hc hk) (by omega))
    rw [show listK (fun _ s => rdFa b (mostsS S) S.is.length S.ns.length s) (numB b).2 n = rdB b (mostsS S) S.is.length S.ns.length by unfold rdB; rw [hn]; rfl] at HGf
    have hst2 := (rdB_st hb (mostsS S) S.is.length S.ns.length).1
    have HEn := Lib.hid (fun w1 N (hi : InAt w1 N b (rdB b (mostsS S) S.is.length S.ns.length).2.1 (rdB b (mostsS S) S.is.length S.ns.length).2.2) => end_st w1 N b (rdB b (mostsS S) S.is.length S.ns.length).2 hi hst2.2)
    have HE1 := Lib.hid (fun (h1 : ¬ ((numB b).2.2 = 0 ∧ (numB b).1 = 0)) => show getGE S b = endE b (rdB b (mostsS S) S.is.length S.ns.length).2 by unfold getGE; rw [if_neg (by omega)]; exact getBE_end hb _ _ _ h1)
    have HE2 := Lib.hid (fun (h1 : (numB b).2.2 = 0) (h2 : (numB b).1 = 0) => show getGE S b = 3 by unfold getGE; rw [if_neg (by omega)]; exact getBE_many _ _ _ h1 h2)
    have HG0 := Lib.hid (fun (h : getGE S b = 0) => show getGF S b = (rdB b (mostsS S) S.is.length S.ns.length).1 by unfold getGF; rw [if_pos h])
    have HG1 := Lib.hid (fun (h : getGE S b ≠ 0) => show getGF S b = [] by unfold getGF; rw [if_neg h])
    rw [hc] at HC
    unfold GotF
    rw [hn] at HE1 HE2 HU
    obtain ⟨⟨a, c, rfl⟩, ⟨a2, c2, rfl⟩, ⟨a3, c3, rfl⟩, a4, c4, rfl⟩ := h.slices
    obtain ⟨va, vc, rfl, -, -⟩ := hv
    generalize (rdB b (mostsS S) S.is.length S.ns.length).1 = rl at *
    generalize (rdB b (mostsS S) S.is.length S.ns.length).2 = rs at *
    generalize (numB b).2 = s0 at *
    generalize getGE S b = E at *
    generalize getGF S b = F at *
    clear h hw hb hl hc hn0 hst hst2 hcn hn
    go_enter Try.func16, Try.ntmps16
    go_wp2_with fail
    refine (HC.out).mono ?_; rintro r w1 ⟨rfl, hb1⟩
    have HB1 := Lib.hid (below_then HB0.out hb1)
    have HX1 := Lib.hid (HX.out.below hb1)
    clear hb1
    go_wp2_with fail
    refine (HNw.out _ HB1.out).mono ?_; rintro r w2 ⟨N, rfl, hN, hi, hb2⟩
    have HB2 := Lib.hid (below_then HB1.out hb2)
    have HX2 := Lib.hid (HX1.out.below hb2)
    have HI2 := Lib.hid hi
    have hwN : w.heap.size ≤ N := by have := HB1.out.size; omega
    have hwN2 : w.heap.size ≠ N := by have := HX1.out.lt; omega
    clear hi hb2
    go_wp2_with fail
    refine (HU.out _ _ HI2.out).mono ?_; rintro r w3 ⟨rfl, hi, hg⟩
    have HI3 := Lib.hid hi
    have HB3 := Lib.hid (below_grown HB2.out hg hwN)
    have HX3 := Lib.hid (HX2.out.grown hg hwN2)
    clear hi hg
    go_wp2_with fail
    refine (HFt.out _ _ HI3.out).mono ?_; rintro r w4 ⟨⟨p, rfl⟩, rfl⟩
    by_cases hq : s0.2 = 0 ∧ (n : Int) = 0
    · have hE := HE2.out hq.1 hq.2
      have hF := HG1.out (by omega)
      subst hE
      subst hF
      have q1 : ((s0.2 : Int) == 0) = true := by simp [hq.1]
      have q2 : ((n : Int) == 0) = true := by rw [hq.2]; rfl
      clear hq
      generalize (s0.2 : Int) = e0 at *
      go_wp2_with fail
      go_ret2
      exact ⟨⟨_, rfl, facts0 _⟩, HB3.out⟩
    · have hE := HE1.out hq
      obtain ⟨y0, y1, y2, y3⟩ := HX3.out.reads
      have hgd : ((s0.2 : Int) == 0) = false ∨ ((s0.2 : Int) == 0) = true ∧ ((n : Int) == 0) = false := by
        by_cases q1 : s0.2 = 0
        · right
          refine ⟨by simp [q1], ?_⟩
          rw [beq_eq_false_iff_ne]; intro q2; exact hq ⟨q1, q2⟩
        · left; rw [beq_eq_false_iff_ne]; omega
      clear hq
      have HGf3 := Lib.hid (HGf.out _ _ HB3.out hwN HI3.out)
      generalize (s0.2 : Int) = e0 at *
      rcases hgd with q1 | ⟨q1, q2⟩
      · go_wp2_with fail
        refine (HGf3.out).mono ?_; rintro r w5 ⟨⟨u, B, rfl, hNB, hf⟩, hi, hg⟩
        have HF5 := Lib.hid hf
        have HI5 := Lib.hid hi
        have HB5 := Lib.hid (below_grown HB3.out hg hwN)
        obtain ⟨ua, ul, uc, rfl⟩ := hf.any
        clear hf hi hg y0 y1 y2 y3
        go_wp2_with fail
        refine (HEn.out _ _ HI5.out).mono ?_; rintro r w6 ⟨rfl, hg⟩
        have HF6 := Lib.hid (HF5.out.far hg hNB).facts
        have HB6 := Lib.hid (below_grown HB5.out hg hwN)
        clear hg
        by_cases hz : endE b rs = 0
        · have hE0 : E = 0 := by rw [hE, hz]
          have hF := HG0.out hE0
          rw [hz]
          subst hE0
          subst hF
          clear hz hE
          go_wp2_with fail
          go_ret2
          exact ⟨⟨_, rfl, HF6.out⟩, HB6.out⟩
        · have hE1 : E ≠ 0 := by rw [hE]; exact hz
          have hF := HG1.out hE1
          subst hE
          subst hF
          have hz2 : ((endE b rs : Int) != 0) = true := by simp; omega
          clear hz hE1
          go_wp2_with fail
          go_ret2
          exact ⟨⟨_, rfl, facts0 _⟩, HB6.out⟩
      · go_wp2_with fail
        refine (HGf3.out).mono ?_; rintro r w5 ⟨⟨u, B, rfl, hNB, hf⟩, hi, hg⟩
        have HF5 := Lib.hid hf
        have HI5 := Lib.hid hi
        have HB5 := Lib.hid (below_grown HB3.out hg hwN)
        obtain ⟨ua, ul, uc, rfl⟩ := hf.any
        clear hf hi hg y0 y1 y2 y3
        go_wp2_with fail
        refine (HEn.out _ _ HI5.out).mono ?_; rintro r w6 ⟨rfl, hg⟩
        have HF6 := Lib.hid (HF5.out.far hg hNB).facts
        have HB6 := Lib.hid (below_grown HB5.out hg hwN)
        clear hg
        by_cases hz : endE b rs = 0
        · have hE0 : E = 0 := by rw [hE, hz]
          have hF := HG0.out hE0
          rw [hz]
          subst hE0
          subst hF
          clear hz hE
          go_wp2_with fail
          go_ret2
          exact ⟨⟨_, rfl, HF6.out⟩, HB6.out⟩
        · have hE1 : E ≠ 0 := by rw [hE]; exact hz
          have hF := HG1.out hE1
          subst hE
          subst hF
          have hz2 : ((endE b rs : Int) != 0) = true := by simp; omega
          clear hz hE1
          go_wp2_with fail
          go_ret2
          exact ⟨⟨_, rfl, facts0 _⟩, HB6.out⟩
  · have e1 : getGE S b = 1 := by unfold getGE; rw [if_pos hc]
    have e2 : getGF S b = [] := by unfold getGF; rw [if_neg (by omega)]
    unfold GotF
    rw [e1, e2]
    have hc2 : ((checkL S : Int) != 0) = true := by simp; omega
    obtain ⟨⟨a, c, rfl⟩, ⟨a2, c2, rfl⟩, ⟨a3, c3, rfl⟩, a4, c4, rfl⟩ := h.slices
    obtain ⟨va, vc, rfl, -, -⟩ := hv
    generalize (checkL S : Int) = ck at *
    clear h hw hb hl hc e1 e2 HNw HU HFt hn0 hst
    go_enter Try.func16, Try.ntmps16
    go_wp2_with fail
    refine (HC.out).mono ?_; rintro r w1 ⟨rfl, hb1⟩
    have HB1 := Lib.hid (below_then HB0.out hb1)
    clear hb1
    go_wp2_with fail
    go_ret2
    exact ⟨⟨_, rfl, facts0 _⟩, HB1.out⟩
end Go.Proofs.Ytdnbjaeeebodkaa
