/- What divideLong of package nat answers: the walk. -/
import Derived.Test.YtfaglcfoamfelaaDoorLongd
import Derived.Outline
import Derived.Deep.DeepCutAuto
import Derived.Deep.CutBlock
namespace Go.Proofs.YtfaglcfoamfelaaDoor
open Go.RowKit
set_option linter.unusedVariables false
theorem seg_top (S : List Int) (t m : Nat) : sgN S t (m + 2 + 1) = ((S.getD (t + (m + 2)) 0 * 4294967296 + S.getD (t + (m + 1)) 0) * 4294967296 + S.getD (t + m) 0) * 4294967296 ^ m + sgN S t m := by
  rw [sgN, sgN, sgN, q_succ (m + 1), q_succ m]
  generalize (4294967296 : Int) ^ m = P
  generalize S.getD (t + (m + 2)) 0 = a
  generalize S.getD (t + (m + 1)) 0 = b
  have e1 : a * (P * 4294967296 * 4294967296) = a * 4294967296 * 4294967296 * P := by rw [Int.mul_assoc P, Int.mul_comm P, ← Int.mul_assoc, ← Int.mul_assoc]
  have e2 : b * (P * 4294967296) = b * 4294967296 * P := by rw [Int.mul_comm P, ← Int.mul_assoc]
  have e3 : ((a * 4294967296 + b) * 4294967296 + S.getD (t + m) 0) * P = a * 4294967296 * 4294967296 * P + b * 4294967296 * P + S.getD (t + m) 0 * P := by rw [Int.add_mul, Int.add_mul, Int.add_mul]
  rw [e1, e2, e3]
  omega
theorem val_top {V : List Int} {m : Nat} (hl : V.length = m + 2) : wv V = (V.getD (m + 1) 0 * 4294967296 + V.getD m 0) * 4294967296 ^ m + wvN V m := by
  rw [wv, hl, wvN, wvN, q_succ]
  generalize (4294967296 : Int) ^ m = P
  have e2 : V.getD (m + 1) 0 * (P * 4294967296) = V.getD (m + 1) 0 * 4294967296 * P := by rw [Int.mul_comm P, ← Int.mul_assoc]
  rw [Int.add_mul, e2]
  omega
theorem top_le {S V : List Int} {t m : Nat} (hl : V.length = m + 2) (hS : Wd S) (hV : Wd V) (h : sgN S t (V.length + 1) < wv V * 4294967296) : S.getD (t + (m + 2)) 0 ≤ V.getD (m + 1) 0 := by
  have h1 := seg_top S t m
  have h2 := val_top hl
  have h3 := (sgN_range hS t m).1
  have h4 := (wvN_range hV m).2
  have hp := q_pos m
  have d1 := hS.getD (t + (m + 1))
  have d0 := hS.getD (t + m)
  have v0 := hV.getD m
  rw [hl, h1, h2] at h
  generalize S.getD (t + (m + 2)) 0 = a at *
  generalize S.getD (t + (m + 1)) 0 = b at *
  generalize S.getD (t + m) 0 = c at *
  generalize V.getD (m + 1) 0 = x at *
  generalize V.getD m 0 = y at *
  generalize (4294967296 : Int) ^ m = P at *
  by_cases g : a ≤ x
  · exact g
  · exfalso
    have k1 : (x * 4294967296 + y + 1) * 4294967296 ≤ (a * 4294967296 + b) * 4294967296 + c := by omega
    have k2 : (x * 4294967296 + y + 1) * 4294967296 * P ≤ ((a * 4294967296 + b) * 4294967296 + c) * P := Int.mul_le_mul_of_nonneg_right k1 (by omega)
    have k3 : ((x * 4294967296 + y) * P + wvN V m) * 4294967296 < (x * 4294967296 + y + 1) * 4294967296 * P := by
      have e : (x * 4294967296 + y + 1) * 4294967296 * P = ((x * 4294967296 + y) * P + P) * 4294967296 := by
        rw [Int.mul_assoc, Int.mul_comm 4294967296 P, ← Int.mul_assoc, Int.add_mul, Int.one_mul]
      omega
    omega
theorem guess_right {S V : List Int} {t m : Nat} {q : Int} (hl : V.length = m + 2) (hS : Wd S) (hV : Wd V) (h : sgN S t (V.length + 1) < wv V * 4294967296) (htop : 2147483648 ≤ V.getD (m + 1) 0)
    (hg : Guessed ((S.getD (t + (m + 2)) 0 * 4294967296 + S.getD (t + (m + 1)) 0) * 4294967296 + S.getD (t + m) 0) (V.getD (m + 1) 0 * 4294967296 + V.getD m 0) q) :
    sgN S t (V.length + 1) / wv V ≤ q ∧ q ≤ sgN S t (V.length + 1) / wv V + 1 := by
  have h3 := sgN_range hS t m
  have h4 := wvN_range hV m
  have d2 := hS.getD (t + (m + 2))
  have d1 := hS.getD (t + (m + 1))
  have d0 := hS.getD (t + m)
  have v0 := hV.getD m
  exact hg.digit (q_pos m) (by rw [hl]; exact seg_top S t m) (val_top hl) h3.1 h3.2 h4.1 h4.2 (by omega) h (by omega)
def LongPost (B g cap : Nat) (R V : List Int) (j0 : Nat) (w : World) (e : Ending) (w' : World) : Prop :=
  ∃ S Qt, e = .returned (.slice (some ⟨w.heap.size, 0, none⟩) j0 j0) ∧ WRow w' B g cap S ∧ Wd S ∧ S.length = R.length ∧ wv S = wv R % wv V ∧ WRow w' w.heap.size w.heap.size j0 Qt ∧ Wd Qt ∧ Qt.length = j0 ∧ wv Qt = wv R / wv V ∧ Below B w w'
set_option maxHeartbeats 4000000 in
theorem long_any (B g cap : Nat) (R : List Int) (bv ov d m : Nat) (V : List Int) (j0 : Nat) (w : World) (hr : WRow w B g cap R) (hR : Wd R) (hv : WList w (.slice (some ⟨bv, ov, none⟩) (m + 2) d) V) (hne : bv ≠ g) (hbv : bv < w.heap.size) (hB : B ≤ w.heap.size)
    (hlV : V.length = m + 2) (hlR : R.length = j0 + (m + 2)) (lR : R.length ≤ 1000000) (hj0 : 0 < j0) (htop : 2147483648 ≤ V.getD (m + 1) 0) (hlt : wv R < wv V * 4294967296 ^ j0) :
    Calls Tryd.prog 57 #[.slice (some ⟨g, 0, none⟩) R.length cap, .slice (some ⟨bv, ov, none⟩) (m + 2) d] w (LongPost B g cap R V j0 w) := by
  obtain ⟨i0, hi, hz0, hz1, hz2⟩ := info_parts Tryd.infoU32
  have hg := hr.facts.1
  have hgs := hr.facts.2.1
  have hcap := hr.facts.2.2.1
  have hcm := hr.facts.2.2.2.1
  unfold maxLen at hcm
  have HLs := Lib.hid (LongRel.start hR hlt)
  have HV := Lib.hid hv
  have HR := Lib.hid hr
  have HT := Lib.hid htop
  have HLV := Lib.hid hlV
  have HLR := Lib.hid hlR
  rw [hlR] at lR hcap ⊢
  clear hv hr hR htop hlt hlV hlR
  have hmk : (j0 : Int) + ((m : Int) + 2) - ((m : Int) + 2) = (j0 : Int) := by omega
  go_enter Tryd.func57, Tryd.ntmps57
  go_wp2_with (at_make; refine wpList_make_full _ rfl _ _ 22 rfl w.heap.size 31 i0 (.int .u32 0) 1 Tryd.underlying22 hi hz0 hz1 .i64 .i64 _ _ j0 rfl rfl (by omega) (by omega) (by rw [hz2]; omega) (by unfold maxLen; omega) (by simp) ?_; intro w0 hown hgrow)
  have hF := wrow_made rfl hown hgrow
  have hF := Lib.hid hF
  clear hown hgrow hmk
  go_wp2_with fail
  have hS0 : Hid (WRow w0 B g cap R ∧ WRow w0 w.heap.size w.heap.size j0 (List.replicate j0 0) ∧ WList w0 (.slice (some ⟨bv, ov, none⟩) (m + 2) d) V ∧ Below B w w0) := Lib.hid ⟨HR.out.call hF.out.2, hF.out.1, HV.out.below hF.out.2, hF.out.2.mono hB⟩
  go_loopw [18] (fun i wr => ∃ (k j : Nat) (S Qt : List Int), Hid (j0 = k + j) ∧ k ≤ j0 ∧ i = .int .i64 k ∧ Hid (LongRel R V j0 j S Qt) ∧ Hid (WRow wr B g cap S ∧ WRow wr w.heap.size w.heap.size j0 Qt ∧ WList wr (.slice (some ⟨bv, ov, none⟩) (m + 2) d) V ∧ Below B w wr)) (fun i _ => j0 - (intOf i).toNat)
  case atStart => exact ⟨0, j0, R, _, Lib.hid (by omega), by omega, rfl, HLs, hS0⟩
  case round =>
    obtain ⟨k, j, S, Qt, hjk, hk, rfl, hL, hS⟩ := hrel
    clear hS0 hF HR HV HLs
    have hlen : Hid (S.length = j0 + (m + 2)) := Lib.hid (hL.out.2.2.2.2.1.trans HLR.out)
    by_cases hlt : k < j0
    · obtain ⟨t, rfl⟩ : ∃ t, j = t + 1 := ⟨j - 1, by have := hjk.out; omega⟩
      have hi0 : (0 : Int) ≤ (j0 : Int) - 1 - k := by omega
      have hi1 : (j0 : Int) - 1 - k < j0 := by omega
      have hiN : ((j0 : Int) - 1 - k).toNat = t := by have := hjk.out; omega
      have hiT : (j0 : Int) - 1 - k = (t : Int) := by have := hjk.out; omega
      have htj : t + (m + 2) + 1 ≤ j0 + (m + 2) := by have := hjk.out; omega
      have htj2 : (t : Int) + ((m : Int) + 2) + 1 ≤ (cap : Int) := by omega
      have htc : t < j0 := by have := hjk.out; omega
      have hsl : t + (m + 2) + 1 - t = m + 3 := by omega
      have hct : m + 3 ≤ cap - t := by omega
      have hl3 : V.length + 1 = m + 3 := by have := HLV.out; omega
      have hf := hS.out.1.facts.2.2.2.2
      have ls := hlen.out
      have c2 := (hf (t + (m + 2)) (by omega)).1
      have c1 := (hf (t + (m + 1)) (by omega)).1
      have c0 := (hf (t + m) (by omega)).1
      have hvc : ∀ i, i < m + 2 → wr.cell? ⟨bv, ov + i, none⟩ = some (.int .u32 (V.getD i 0)) := fun i hi => by
        obtain ⟨b', o', e, _, hc⟩ := hS.out.2.2.1.1.cell (i := i) (by have := HLV.out; omega)
        simp only [Option.some.injEq, Addr.mk.injEq, and_true] at e
        obtain ⟨rfl, rfl⟩ := e
        exact hc
      have hsd := hL.out.2.2.1
      have hvd := hS.out.2.2.1.2.1
      have hseg := (hL.out.seg hvd (by rw [HLV.out]; omega)).2
      have hv0 : 0 < wv V := by
        have e := val_top HLV.out
        have h1 := (wvN_range hvd m).1
        have h2 := (hvd.getD m).1
        have h3 := HT.out
        have h4 : 0 < (V.getD (m + 1) 0 * 4294967296 + V.getD m 0) * 4294967296 ^ m := Int.mul_pos (by omega) (q_pos m)
        omega
      have HG := Lib.hid (guess_any g t bv ov m (cap - t) d _ _ _ _ _ wr c2 c1 c0 (hvc (m + 1) (by omega)) (hvc m (by omega)) (by omega) (hsd.getD _).1 (top_le HLV.out hsd hvd hseg) (hsd.getD _).1 (hsd.getD _).2 (hsd.getD _).1 (hsd.getD _).2 HT.out (hvd.getD _).2 (hvd.getD _).1 (hvd.getD _).2)
      have hgr := Lib.hid (fun q hq => guess_right (q := q) HLV.out hsd hvd hseg HT.out hq)
      have HD := Lib.hid (And.intro hsd (And.intro hvd hv0))
      have hHt : Hid (t + V.length < S.length) := Lib.hid (by rw [HLV.out]; omega)
      have hVl : Hid (V.length ≤ 1099511627775) := Lib.hid (by rw [HLV.out]; omega)
      have hTake := Lib.hid (fun (q : Int) (q0 : 0 ≤ q) (q1 : q ≤ 4294967295) (nd : Nat) => (by
        have := take_any B g cap t S (.slice (some ⟨bv, ov, none⟩) (m + 2) d) V q (cap - t) (wr.drewN nd) (hS.out.1.drewN nd) hsd (hS.out.2.2.1.below (below_drewN (Below.refl _ _) nd)) (fun b o l d e => by simp at e; omega) hHt.out hVl.out q0 q1 (by omega)
        rwa [hl3] at this : Calls Tryd.prog 63 #[.slice (some ⟨g, t, none⟩) (m + 3) (cap - t), .slice (some ⟨bv, ov, none⟩) (m + 2) d, .int .u32 q] (wr.drewN nd) (TakePost B g cap t S V q (wr.drewN nd))))
      have hGive := Lib.hid (fun (T : List Int) (w2 : World) (hT : WRow w2 B g cap T) (hTd : Wd T) (hTl : T.length = S.length) (hV2 : WList w2 (.slice (some ⟨bv, ov, none⟩) (m + 2) d) V) => (by
        have := give_any B g cap t T (.slice (some ⟨bv, ov, none⟩) (m + 2) d) V (cap - t) w2 hT hTd hV2 (fun b o l d e => by simp at e; omega) (by rw [hTl]; exact hHt.out) hVl.out (by omega)
        rwa [hl3] at this : Calls Tryd.prog 64 #[.slice (some ⟨g, t, none⟩) (m + 3) (cap - t), .slice (some ⟨bv, ov, none⟩) (m + 2) d] w2 (GivePost B g cap t T V w2)))
      have hgq : Hid (w.heap.size ≠ g ∧ bv ≠ w.heap.size) := Lib.hid ⟨by omega, by omega⟩
      have hQl : Hid (Qt.length = j0) := Lib.hid hL.out.2.2.2.2.2.1
      clear hf ls c2 c1 c0 hvc hsd hvd hseg hv0 hl3
      go_wp2_with fail
      refine (HG.out).mono ?_; rintro e w1 ⟨q, rfl, hq, nd, rfl⟩
      have hqq := hgr.out q hq
      obtain ⟨q0, q1, -, -⟩ := hq
      go_wp2_with fail
      refine (hTake.out q q0 q1 nd).mono ?_; rintro e w2 ⟨T, b, rfl, ⟨hr2, hd2, ho2⟩, hout, hsg⟩
      have hdr := digit_right hqq HD.out.2.2 HD.out.1 hd2 hsg HD.out.2.1
      have hQ2 := (hS.out.2.1.drewN nd).only ho2 hgq.out.1
      have hV2 := (hS.out.2.2.1.below (below_drewN (Below.refl _ _) nd)).only ho2 (fun b o l d e => by simp at e; omega)
      have hB2 := (below_drewN hS.out.2.2.2 nd).trans (ho2.below hg)
      have HS2 := Lib.hid (And.intro hr2 (And.intro hQ2 (And.intro hV2 hB2)))
      obtain ⟨hqc, hqf⟩ := hQ2.facts.2.2.2.2 t (by rw [hQl.out]; exact htc)
      cases b with
      | false =>
        obtain ⟨e1, e2⟩ := hdr.1 rfl
        have hN := Lib.hid (hL.out.next HD.out.2.1 HD.out.2.2 hHt.out hd2 hout e1 e2 htc)
        clear hdr hqq hr2 hQ2 hV2 hB2 ho2 hd2 hout hsg e1 e2 hgr HG hTake hGive
        go_wp2_with fail
        go_roundw
        case rel => exact ⟨k + 1, t, T, _, Lib.hid (by have := hjk.out; omega), by omega, by go_num, hN, Lib.hid ⟨HS2.out.1.only ((Only.refl w.heap.size w2).set t _) (fun e => hgq.out.1 e.symm), HS2.out.2.1.set t _, HS2.out.2.2.1.only ((Only.refl w.heap.size w2).set t _) (fun b o l d e => by simp at e; have := hgq.out.2; omega), below_set HS2.out.2.2.2 hB t _⟩⟩
        case measure => simp [intOf]; omega
      | true =>
        obtain ⟨e1, e2⟩ := hdr.2 rfl
        have hq1' : 0 ≤ q - 1 := by rw [e1]; exact Int.ediv_nonneg (sgN_range HD.out.1 _ _).1 (by have := HD.out.2.2; omega)
        have hGv := Lib.hid (hGive.out T w2 hr2 hd2 hout.1 hV2)
        have hN := Lib.hid (fun (U : List Int) (tt : Int) (hU : Wd U) (ho : Out T U t (V.length + 1)) (hs : sgN U t (V.length + 1) = sgN T t (V.length + 1) + wv V - 4294967296 ^ (V.length + 1) * tt) => hL.out.next HD.out.2.1 HD.out.2.2 hHt.out hU (hout.trans ho) e1 (e2 U tt hU hs) htc)
        clear hdr hqq hr2 hQ2 hV2 hB2 ho2 hd2 hout hsg e1 e2 hgr HG hTake hGive hqc hqf
        go_wp2_with fail
        refine (hGv.out).mono ?_; rintro e w3 ⟨U, tt, rfl, ⟨hr3, hd3, ho3⟩, hout3, hsg3⟩
        have hN2 := Lib.hid (hN.out U tt hd3 hout3 hsg3)
        have hQ3 := HS2.out.2.1.only ho3 hgq.out.1
        have hV3 := HS2.out.2.2.1.only ho3 (fun b o l d e => by simp at e; omega)
        have hB3 := HS2.out.2.2.2.trans (ho3.below hg)
        obtain ⟨hqc, hqf⟩ := hQ3.facts.2.2.2.2 t (by rw [hQl.out]; exact htc)
        have HS3 := Lib.hid (And.intro hr3 (And.intro hQ3 (And.intro hV3 hB3)))
        clear hr3 hQ3 hV3 hB3 ho3 hd3 hout3 hsg3 hN hGv HS2
        go_wp2_with fail
        go_roundw
        case rel => exact ⟨k + 1, t, U, _, Lib.hid (by have := hjk.out; omega), by omega, by go_num, hN2, Lib.hid ⟨HS3.out.1.only ((Only.refl w.heap.size w3).set t _) (fun e => hgq.out.1 e.symm), HS3.out.2.1.set t _, HS3.out.2.2.1.only ((Only.refl w.heap.size w3).set t _) (fun b o l d e => by simp at e; have := hgq.out.2; omega), below_set HS3.out.2.2.2 hB t _⟩⟩
        case measure => simp [intOf]; omega
    · obtain rfl : j = 0 := by have := hjk.out; omega
      have hE := Lib.hid hL.out
      clear hL
      go_wp2_with fail
      go_ret
      obtain ⟨h1, h2, h3, h4, h5, h6, h7⟩ := hE.out
      have hvp : 0 < wv V := by
        have e := val_top HLV.out
        have k1 := (wvN_range hS.out.2.2.1.2.1 m).1
        have k2 := (hS.out.2.2.1.2.1.getD m).1
        have k3 := HT.out
        have k4 : 0 < (V.getD (m + 1) 0 * 4294967296 + V.getD m 0) * 4294967296 ^ m := Int.mul_pos (by omega) (q_pos m)
        omega
      simp at h2
      have hu := (Int.ediv_emod_unique (a := wv R) (b := wv V) (r := wv S) (q := wv Qt) hvp).2 ⟨h1, (wv_range h3).1, h2⟩
      exact ⟨S, Qt, rfl, hS.out.1, h3, h5, hu.2.symm, hS.out.2.1, h4, h6, hu.1.symm, hS.out.2.2.2⟩
end Go.Proofs.YtfaglcfoamfelaaDoor
