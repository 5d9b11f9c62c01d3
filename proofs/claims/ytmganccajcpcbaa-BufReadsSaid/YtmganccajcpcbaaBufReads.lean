/- BufReads: for any slice of bytes and any slice of questions the statement's function returns true and changes nothing that was there. No condition. -/
import Derived.Test.YtmganccajcpcbaaRows
import Derived.Test.YtmganccajcpcbaaBufr
import Derived.Test.YtmganccajcpcbaaBuft
import Derived.Test.YtmganccajcpcbaaBufs
import Derived.WalkKit
import Derived.ProofKit
import Derived.OpenShut
import Derived.Below
import Derived.Deep.RegionLaw
namespace Go.Proofs.Ytmganccajcpcbaa.bufReads
set_option maxRecDepth 100000
open Go.ChangeShapes Go.WideShapes Go.ChangeAt Go.RowKit
set_option linter.unusedVariables false
theorem own : ownKnob Try.prog.godebug = none := by kernel_rfl
theorem laidOut : laidOutB Try.prog = true := by kernel_rfl
/-- What is true of the reader ahead of each question. -/
def Reads (w : World) (N : Nat) (b : List Int) (p e : Nat) (wr : World) : Prop := InAt wr N b p e ∧ Below w.heap.size w wr ∧ e < 9
/-- A question's answer in its box. -/
theorem box_store {w0 w2 : World} {G : Nat} {u i : Int} {t : ByteArray} {n e : Nat} (hb : Below w0.heap.size w0 w2) (hG : w0.heap.size ≤ G) (h : w2.heap[G]? = some (gotO 0 0 ⟨#[]⟩ 0 0)) :
    let W := (((((w2.setCell ⟨G, 0, none⟩ (.int .u64 u)).setCell ⟨G, 1, none⟩ (.int .i64 i)).setCell ⟨G, 2, none⟩ (.string t)).setCell ⟨G, 3, none⟩ (.int .i64 n)).setCell ⟨G, 4, none⟩ (.int .i64 e))
    W.heap[G]? = some (gotO u i t n e) ∧ Below w0.heap.size w0 W :=
  ⟨got_store h u i t n e, ((((hb.setCell hG _).setCell hG _).setCell hG _).setCell hG _).setCell hG _⟩
set_option maxHeartbeats 8000000 in
theorem walk_main (a0 : Option Addr) (len0 cap0 : Nat) (z0 : List Int) (v1 : Value) (n : Nat) (D U I : Nat → Int) (F : Nat → Nat) (T : Nat → ByteArray) (M : Nat → Int) (w : World) (w0 : Given .u8 w (.slice a0 len0 cap0) z0) (hq : Asks w v1 n D U I F T M) (hl : len0 ≤ 1000) :
    Calls Try.prog 3 #[.slice a0 len0 cap0, v1] w fun e w' => e = .returned (.bool true) ∧ Below w.heap.size w w' := by
  have HA := Lib.hid (fun w => awake8_any w)
  have l0 := len_max w0
  have HS := Lib.hid (small_any w v1 n D U I F T M hq)
  have HQ := Lib.hid (fun w1 (h : Below w.heap.size w w1) => hq.below h)
  have HWf := Lib.hid hq.2
  have HN := Lib.hid (newin_any _ z0 w w0.1 w0.byt (by omega))
  have HV := Lib.hid (fun w1 (h : Below w.heap.size w w1) => w0.1.below h)
  have HBt := Lib.hid w0.byt
  have i0 : ¬ (1000 : Int) < (len0 : Int) := by omega
  obtain ⟨⟨a1, cap1, rfl, -, -⟩, -⟩ := hq
  subst l0
  clear w0
  go_enter Try.func3, Try.ntmps3
  go_wp2_with fail
  refine (HS.out).mono ?_; rintro r w1 ⟨⟨bs, rfl, hbs⟩, rfl⟩
  cases bs with
  | false =>
    go_wp2_with fail
    refine (HA.out _).mono ?_; rintro r w1 ⟨rfl, hb⟩
    go_wp2_with fail
    go_ret
    exact ⟨rfl, hb⟩
  | true =>
    have HSm := Lib.hid (hbs rfl)
    clear hbs HS
    go_wp2_with fail
    refine (HN.out).mono ?_; rintro r w1 ⟨N, rfl, hN, hin, hb⟩
    have HNs := Lib.hid hN
    have HR0 := Lib.hid (show Reads w N z0 0 0 w1 from ⟨hin, hb, by decide⟩)
    clear hin hb HN hN
    go_wp2_with fail
    go_loopw [6, 7, 8] (fun av bv kv wr => ∃ k p e : Nat, k ≤ n ∧ av = .int .i64 p ∧ bv = .int .i64 e ∧ kv = .int .i64 k ∧ Hid (Reads w N z0 p e wr)) (fun _ _ kv _ => n - (intOf kv).toNat)
    case atStart => exact ⟨0, 0, 0, Nat.zero_le _, rfl, rfl, rfl, HR0⟩
    case round =>
      obtain ⟨k, p, e, hk, rfl, rfl, rfl, hR⟩ := hrel
      clear HR0
      by_cases hlt : k < n
      · have i1 : (k : Int) < (n : Int) := by omega
        have HK := Lib.hid hlt
        have i5 : IntKind.i64.wrap ((k : Int) + 1) = (k : Int) + 1 := IntWalk.i64_in _ (by have := HSm.out.1; omega)
        have hn40 : n ≤ 40 := HSm.out.1
        by_cases he : e = 0
        · subst he
          obtain ⟨hin, hbw, -⟩ := hR.out
          obtain ⟨b, off, rfl, c0, c1, c2, c3, c4, c5⟩ := (HQ.out wr hbw).cells hlt
          have hpl : p ≤ z0.length := by obtain ⟨v, -, -, -, -, -, h⟩ := hin; exact h
          obtain ⟨uu, cc, hop, hi⟩ := tail_any (HV.out wr hbw) hpl
          have hwf := HWf.out k hlt
          have hsm := HSm.out.2 k hlt
          have HRef := Lib.hid (fun w2 (h : Below wr.heap.size wr w2) => ref_any w2 _ (z0.drop p) (D k) (U k) (I k) (M k) (F k) (T k) hsm.2 hwf.2.2.2.1 (hi.below h) (HBt.out.drop p) (by simp; omega))
          have HRd := Lib.hid (fun w2 (h : Below wr.heap.size wr w2) => rdA_any w2 N z0 p (D k) (U k) (I k) (M k) (F k) (T k) hsm.2 hwf.2.2.2.1 (hin.below h))
          have HFit := Lib.hid (gotA_fit (HBt.out.drop p) (D k) (U k) (M k))
          have hdl : (z0.drop p).length = z0.length - p := by simp
          rw [hdl] at HFit
          generalize gotA (D k) (U k) (M k) (z0.drop p) = R at *
          obtain ⟨gu, gi, gt, gn, ge⟩ := R
          simp only at HRef HRd HFit
          generalize D k = d at *
          generalize U k = u at *
          generalize I k = i at *
          generalize F k = f at *
          generalize T k = t at *
          generalize M k = m at *
          have HC := Lib.hid (And.intro c0 (And.intro c1 (And.intro c2 (And.intro c3 (And.intro c4 c5)))))
          have HIn := Lib.hid (And.intro hin hbw)
          have hn1 := heap_alloc_new wr (gotO 0 0 ⟨#[]⟩ 0 0)
          have hb1 := below_one wr (gotO 0 0 ⟨#[]⟩ 0 0)
          clear c0 c1 c2 c3 c4 c5 hin hbw hwf hsm hdl hi
          go_upto_region 10 with fail
          generalize wr.alloc (gotO 0 0 ⟨#[]⟩ 0 0) = W1 at *
          have e0 : W1.drew.cell? ⟨b, off + k * 6, none⟩ = some (.int .i64 d) := by simpa using cell_on hb1 HC.out.1
          have e1 : W1.drew.cell? ⟨b, off + k * 6 + 1, none⟩ = some (.int .u64 u) := by simpa using cell_on hb1 HC.out.2.1
          have e2 : W1.drew.cell? ⟨b, off + k * 6 + 2, none⟩ = some (.int .i64 i) := by simpa using cell_on hb1 HC.out.2.2.1
          have e3 : W1.drew.cell? ⟨b, off + k * 6 + 3, none⟩ = some (.float .f64 f) := by simpa using cell_on hb1 HC.out.2.2.2.1
          have e4 : W1.drew.cell? ⟨b, off + k * 6 + 4, none⟩ = some (.string t) := by simpa using cell_on hb1 HC.out.2.2.2.2.1
          have e5 : W1.drew.cell? ⟨b, off + k * 6 + 5, none⟩ = some (.int .i64 m) := by simpa using cell_on hb1 HC.out.2.2.2.2.2
          have hBw : Below wr.heap.size wr W1.drew := hb1.drew
          have HG1 := Lib.hid (show W1.drew.heap[wr.heap.size]? = some (gotO 0 0 ⟨#[]⟩ 0 0) from hn1)
          clear hn1 hb1
          go_region_law (first
            | (go_simp; go_at_call 9; refine (HRef.out _ hBw).mono ?_; rintro r w2 ⟨rfl, hb2⟩; have hG2 := (hb2.block _ (Array.getElem?_eq_some_iff.1 HG1.out).1).trans HG1.out; have hbd := below_then hBw hb2; obtain ⟨⟨x0, x1, x2, x3, x4⟩, y0, y1, y2, y3, y4⟩ := got_cells hG2))
          all_goals
            have hst := box_store (u := gu) (i := gi) (t := gt) (n := gn) (e := ge) hbd (Nat.le_refl _) hG2
            simp only at hst
            have HST := Lib.hid hst
            clear hst hG2 x0 x1 x2 x3 x4 y0 y1 y2 y3 y4 e0 e1 e2 e3 e4 e5 hb2 hbd hBw HG1 HRef hop
            generalize (((((w2.setCell ⟨wr.heap.size, 0, none⟩ (.int .u64 gu)).setCell ⟨wr.heap.size, 1, none⟩ (.int .i64 gi)).setCell ⟨wr.heap.size, 2, none⟩ (.string gt)).setCell ⟨wr.heap.size, 3, none⟩ (.int .i64 (gn : Int))).setCell ⟨wr.heap.size, 4, none⟩ (.int .i64 (ge : Int))) = W3 at *
            have HX := Lib.hid (got_cells HST.out.1).1
            obtain ⟨x0, x1, x2, x3, x4⟩ := HX.out
            obtain ⟨q, hq⟩ : ∃ q, p + gn = q := ⟨_, rfl⟩
            have hql : q ≤ z0.length := by
              by_cases h : ge = 0
              · have := HFit.out.2.1 h; omega
              · have := HFit.out.2.2 h; omega
            have i2 : IntKind.i64.wrap ((p : Int) + (gn : Int)) = (q : Int) := by rw [IntWalk.i64_in _ (by omega)]; omega
            have i3 : IntKind.i64.wrap ((z0.length : Int) - (q : Int)) = ((z0.length - q : Nat) : Int) := by rw [IntWalk.i64_in _ (by omega)]; omega
            go_upto_region 13 with fail
            have e0 : W3.drew.cell? ⟨b, off + k * 6, none⟩ = some (.int .i64 d) := by simpa using cell_on HST.out.2 HC.out.1
            have e1 : W3.drew.cell? ⟨b, off + k * 6 + 1, none⟩ = some (.int .u64 u) := by simpa using cell_on HST.out.2 HC.out.2.1
            have e2 : W3.drew.cell? ⟨b, off + k * 6 + 2, none⟩ = some (.int .i64 i) := by simpa using cell_on HST.out.2 HC.out.2.2.1
            have e3 : W3.drew.cell? ⟨b, off + k * 6 + 3, none⟩ = some (.float .f64 f) := by simpa using cell_on HST.out.2 HC.out.2.2.2.1
            have e4 : W3.drew.cell? ⟨b, off + k * 6 + 4, none⟩ = some (.string t) := by simpa using cell_on HST.out.2 HC.out.2.2.2.2.1
            have e5 : W3.drew.cell? ⟨b, off + k * 6 + 5, none⟩ = some (.int .i64 m) := by simpa using cell_on HST.out.2 HC.out.2.2.2.2.2
            have q0 : W3.drew.cell? ⟨wr.heap.size, 0, none⟩ = some (.int .u64 gu) := by simpa using HX.out.1
            have q1 : W3.drew.cell? ⟨wr.heap.size, 1, none⟩ = some (.int .i64 gi) := by simpa using HX.out.2.1
            have q2 : W3.drew.cell? ⟨wr.heap.size, 2, none⟩ = some (.string gt) := by simpa using HX.out.2.2.1
            have q3 : W3.drew.cell? ⟨wr.heap.size, 3, none⟩ = some (.int .i64 (gn : Int)) := by simpa using HX.out.2.2.2.1
            have q4 : W3.drew.cell? ⟨wr.heap.size, 4, none⟩ = some (.int .i64 (ge : Int)) := by simpa using HX.out.2.2.2.2
            have hBw : Below wr.heap.size wr W3.drew := HST.out.2.drew
            clear x0 x1 x2 x3 x4
            go_region_law (first
              | (go_simp; go_at_call 10; refine (HRd.out _ hBw).mono ?_; rintro r w4 ⟨rfl, hin4, hg4⟩))
            all_goals
              have HI4 := Lib.hid (show InAt w4 N z0 q ge by
                by_cases h : ge = 0
                · rw [if_pos h, hq] at hin4; exact hin4
                · rw [if_neg h] at hin4
                  have := HFit.out.2.2 h
                  rw [show q = p by omega]; exact hin4)
              have HB4 := Lib.hid (below_grown (below_then HIn.out.2 hBw) hg4 HNs.out)
              clear hin4 hg4 hBw e0 e1 e2 e3 e4 e5 q0 q1 q2 q3 q4 HX HST HRd hq
              by_cases h0 : ge = 0
              · subst h0
                have HF := Lib.hid (fault_ok w4 N z0 q HI4.out)
                have HL := Lib.hid (left_any w4 N z0 q HI4.out)
                generalize z0.length - q = rest at *
                go_wp2_with fail
                refine (HF.out).mono ?_; rintro r w5 ⟨rfl, rfl⟩
                go_wp2_with fail
                refine (HL.out).mono ?_; rintro r w5 ⟨rfl, hb5⟩
                have HB5 := Lib.hid hb5
                clear hb5
                go_wp2_with fail
                go_roundw
                case rel => exact ⟨k + 1, q, 0, by have := HK.out; omega, rfl, rfl, by go_num, Lib.hid ⟨HI4.out.below HB5.out, below_then HB4.out HB5.out, by decide⟩⟩
                case measure => have := HK.out; simp [intOf]; omega
              · have HF := Lib.hid (fault_err w4 N z0 q ge HI4.out h0 HFit.out.1)
                have HL := Lib.hid (left_shut w4 _ ge (HI4.out.shut h0 (by have := HFit.out.1; omega)))
                have h1 : ((ge : Int) == 0) = false := by simp; omega
                have h2 : ((ge : Int) != 0) = true := by simp; omega
                have H0 := Lib.hid h0
                clear h0
                go_wp2_with fail
                refine (HF.out).mono ?_; rintro r w5 ⟨rfl, rfl⟩
                go_wp2_with fail
                refine (HL.out).mono ?_; rintro r w5 ⟨rfl, rfl⟩
                go_wp2_with fail
                go_roundw
                case rel => exact ⟨k + 1, q, ge, by have := HK.out; omega, rfl, rfl, by go_num, Lib.hid ⟨HI4.out, HB4.out, HFit.out.1⟩⟩
                case measure => have := HK.out; simp [intOf]; omega
        · obtain ⟨hin, hbw, h9⟩ := hR.out
          obtain ⟨b, off, rfl, c0, c1, c2, c3, c4, c5⟩ := (HQ.out wr hbw).cells hlt
          have HRs := Lib.hid (fun w2 (h : Below wr.heap.size wr w2) => rs_any w2 (.pointer (some ⟨N, 0, none⟩)) e (D k) (U k) (I k) (M k) (F k) (T k) ((hin.below h).shut he (by omega)))
          generalize D k = d at *
          generalize U k = u at *
          generalize I k = i at *
          generalize F k = f at *
          generalize T k = t at *
          generalize M k = m at *
          have HC := Lib.hid (And.intro c0 (And.intro c1 (And.intro c2 (And.intro c3 (And.intro c4 c5)))))
          have HIn := Lib.hid (And.intro hin (And.intro hbw (And.intro h9 he)))
          have hn1 := heap_alloc_new wr (gotO 0 0 ⟨#[]⟩ 0 0)
          have hb1 := below_one wr (gotO 0 0 ⟨#[]⟩ 0 0)
          have h1 : ((e : Int) == 0) = false := by simp; omega
          have h2 : ((e : Int) != 0) = true := by simp; omega
          clear c0 c1 c2 c3 c4 c5 hin hbw he
          go_upto_region 13 with fail
          generalize wr.alloc (gotO 0 0 ⟨#[]⟩ 0 0) = W1 at *
          have HX := Lib.hid (got_cells hn1).1
          have e0 : W1.drew.cell? ⟨b, off + k * 6, none⟩ = some (.int .i64 d) := by simpa using cell_on hb1 HC.out.1
          have e1 : W1.drew.cell? ⟨b, off + k * 6 + 1, none⟩ = some (.int .u64 u) := by simpa using cell_on hb1 HC.out.2.1
          have e2 : W1.drew.cell? ⟨b, off + k * 6 + 2, none⟩ = some (.int .i64 i) := by simpa using cell_on hb1 HC.out.2.2.1
          have e3 : W1.drew.cell? ⟨b, off + k * 6 + 3, none⟩ = some (.float .f64 f) := by simpa using cell_on hb1 HC.out.2.2.2.1
          have e4 : W1.drew.cell? ⟨b, off + k * 6 + 4, none⟩ = some (.string t) := by simpa using cell_on hb1 HC.out.2.2.2.2.1
          have e5 : W1.drew.cell? ⟨b, off + k * 6 + 5, none⟩ = some (.int .i64 m) := by simpa using cell_on hb1 HC.out.2.2.2.2.2
          have q0 : W1.drew.cell? ⟨wr.heap.size, 0, none⟩ = some (.int .u64 0) := by simpa using HX.out.1
          have q1 : W1.drew.cell? ⟨wr.heap.size, 1, none⟩ = some (.int .i64 0) := by simpa using HX.out.2.1
          have q2 : W1.drew.cell? ⟨wr.heap.size, 2, none⟩ = some (.string ⟨#[]⟩) := by simpa using HX.out.2.2.1
          have q3 : W1.drew.cell? ⟨wr.heap.size, 3, none⟩ = some (.int .i64 0) := by simpa using HX.out.2.2.2.1
          have q4 : W1.drew.cell? ⟨wr.heap.size, 4, none⟩ = some (.int .i64 0) := by simpa using HX.out.2.2.2.2
          have hBw : Below wr.heap.size wr W1.drew := hb1.drew
          clear hn1 hb1
          go_region_law (first
            | (go_simp; go_at_call 10; refine (HRs.out _ hBw).mono ?_; rintro r w4 ⟨rfl, hb4⟩))
          all_goals
            have HB4 := Lib.hid (below_then hBw hb4)
            have HI4 := Lib.hid (HIn.out.1.below HB4.out)
            clear hb4 hBw e0 e1 e2 e3 e4 e5 q0 q1 q2 q3 q4 HX HRs
            have HF := Lib.hid (fault_err w4 N z0 p e HI4.out HIn.out.2.2.2 HIn.out.2.2.1)
            have HL := Lib.hid (left_shut w4 _ e (HI4.out.shut HIn.out.2.2.2 (by have := HIn.out.2.2.1; omega)))
            go_wp2_with fail
            refine (HF.out).mono ?_; rintro r w5 ⟨rfl, rfl⟩
            go_wp2_with fail
            refine (HL.out).mono ?_; rintro r w5 ⟨rfl, rfl⟩
            go_wp2_with fail
            go_roundw
            case rel => exact ⟨k + 1, p, e, by have := HK.out; omega, rfl, rfl, by go_num, Lib.hid ⟨HI4.out, below_then HIn.out.2.1 HB4.out, HIn.out.2.2.1⟩⟩
            case measure => have := HK.out; simp [intOf]; omega
      · obtain rfl : k = n := by omega
        obtain ⟨hin, hbw, h9⟩ := hR.out
        have hpl : p ≤ z0.length := by obtain ⟨v, -, -, -, -, -, h⟩ := hin; exact h
        have HBw := Lib.hid hbw
        by_cases he : e = 0
        · subst he
          by_cases hp : p < z0.length
          · have i4 : (p : Int) < (z0.length : Int) := by omega
            have HE := Lib.hid (end_more wr N z0 p hin hp)
            have HF := Lib.hid (fun w2 (h : InAt w2 N z0 p 7) => fault_err w2 N z0 p 7 h (by decide) (by decide))
            clear hin hbw hR
            go_wp2_with fail
            refine (HE.out).mono ?_; rintro r w2 ⟨rfl, h1, h2⟩
            have HF2 := Lib.hid (HF.out _ h1)
            have HB2 := Lib.hid (below_grown HBw.out h2 HNs.out)
            clear h1 h2
            go_wp2_with fail
            refine (HF2.out).mono ?_; rintro r w3 ⟨rfl, rfl⟩
            go_wp2_with fail
            refine (HA.out _).mono ?_; rintro r w3 ⟨rfl, hb⟩
            have HB3 := Lib.hid (below_then HB2.out hb)
            clear hb
            go_wp2_with fail
            go_ret
            exact ⟨rfl, HB3.out⟩
          · have i4 : ¬ (p : Int) < (z0.length : Int) := by omega
            have HE := Lib.hid (end_ok wr N z0 p hin (by omega))
            have HF := Lib.hid (fun w2 (h : InAt w2 N z0 p 0) => fault_ok w2 N z0 p h)
            clear hin hbw hR
            go_wp2_with fail
            refine (HE.out).mono ?_; rintro r w2 ⟨rfl, h1, h2⟩
            have HF2 := Lib.hid (HF.out _ h1)
            have HB2 := Lib.hid (below_then HBw.out h2)
            clear h1 h2
            go_wp2_with fail
            refine (HF2.out).mono ?_; rintro r w3 ⟨rfl, rfl⟩
            go_wp2_with fail
            refine (HA.out _).mono ?_; rintro r w3 ⟨rfl, hb⟩
            have HB3 := Lib.hid (below_then HB2.out hb)
            clear hb
            go_wp2_with fail
            go_ret
            exact ⟨rfl, HB3.out⟩
        · have HE := Lib.hid (end_shut wr _ e (hin.shut he (by omega)))
          have HF := Lib.hid (fault_err wr N z0 p e hin he h9)
          have h1 : ((e : Int) == 0) = false := by simp; omega
          have h2 : ((e : Int) != 0) = true := by simp; omega
          clear hin hbw hR he
          go_wp2_with fail
          refine (HE.out).mono ?_; rintro r w2 ⟨rfl, rfl⟩
          go_wp2_with fail
          refine (HF.out).mono ?_; rintro r w3 ⟨rfl, rfl⟩
          go_wp2_with fail
          refine (HA.out _).mono ?_; rintro r w3 ⟨rfl, hb⟩
          have HB3 := Lib.hid (below_then HBw.out hb)
          clear hb
          go_wp2_with fail
          go_ret
          exact ⟨rfl, HB3.out⟩
theorem walk (a0 : Option Addr) (len0 cap0 : Nat) (z0 : List Int) (v1 : Value) (n : Nat) (D U I : Nat → Int) (F : Nat → Nat) (T : Nat → ByteArray) (M : Nat → Int) (w : World) (w0 : Given .u8 w (.slice a0 len0 cap0) z0) (hq : Asks w v1 n D U I F T M) :
    Calls Try.prog 3 #[.slice a0 len0 cap0, v1] w fun e w' => e = .returned (.bool true) ∧ Below w.heap.size w w' := by
  by_cases hl : len0 ≤ 1000
  · exact walk_main a0 len0 cap0 z0 v1 n D U I F T M w w0 hq hl
  · have HA := Lib.hid (awake8_any w)
    have i0 : (1000 : Int) < (len0 : Int) := by omega
    obtain ⟨⟨a1, cap1, rfl, -, -⟩, -⟩ := hq
    clear w0
    go_enter Try.func3, Try.ntmps3
    go_wp2_with fail
    refine (HA.out).mono ?_; rintro r w1 ⟨rfl, hb⟩
    go_wp2_with fail
    go_ret
    exact ⟨rfl, hb⟩
set_option maxRecDepth 100000 in
theorem lifted (os : Os) (started : os.Started) (H : Type) (enc : TypeId × Value → H) :
    ReturnsInHanded {} Try.checked os 3 .any (Rows.bufReadsSpec.pre6 enc Try.prog Try.f3 Rows.bufReadsRow.domain false) (Rows.bufReadsSpec.post enc Try.prog Try.f3 false true false false) := by
  refine returnsInHanded_of_change (C := Try.checked) own started (by kernel_rfl) Try.func3
    (ChangeSpec.witness6 (enc := enc) (C := Try.checked) false ⟨#[], #[.slice none 0 0, .slice none 0 0], []⟩ 8 (by kernel_rfl) (by kernel_rfl) (by kernel_rfl) (by kernel_rfl)) ?_
  intro W base args ds gs before hval0 hW hcnd _
  have hval : ∀ (j : Nat) t v, Try.f3.params[j]? = some t → args[j]? = some v → Value.okWide Try.prog W .any base t v := hval0
  have hW' := hW
  obtain ⟨p, q, hA0, hV, rfl, hfz, hnd⟩ := hW
  have hA : DataW.TrodAll enc Try.prog W 0 (fun _ => true) true Try.f3.params.toList args.toList ds p := hA0
  rw [Try.params3] at hA hval
  obtain ⟨v0, vs0, d0, ds0, p0, q0, hargs, rfl, rfl, h0, r0⟩ := trodAll_cons hA
  obtain ⟨v1, vs1, d1, ds1, p1, q1, rfl, rfl, rfl, h1, r1⟩ := trodAll_cons r0
  obtain ⟨rfl, rfl, rfl⟩ := trodAll_nil r1
  obtain rfl : args = #[v0, v1] := by cases args; simp_all
  obtain ⟨rfl, rfl⟩ := trodVars_none hV
  obtain ⟨a0, len0, cap0, rfl⟩ := okWide_slice Try.underlying22 (hval 0 22 v0 rfl rfl)
  have k0 := h0
  have lt0 : ∀ x ∈ p0, x.block < W.heap.size := by obtain ⟨m, hm⟩ := k0; exact DataW.trod_lt m _ _ _ hm
  obtain ⟨z0, w0⟩ : ∃ zs, Given .u8 W (.slice a0 len0 cap0) zs := by
    obtain ⟨fuel, hf⟩ := h0
    rcases open_ints Try.underlying22 Try.underlying5 (by kernel_rfl) hf with ⟨hcs, _⟩ | ⟨x, l, c, zs, hcs, _, hl, hm, hz, _, hcell, hwz⟩
    · simp [Value.cells] at hcs
      obtain ⟨rfl, rfl, rfl⟩ := hcs
      exact ⟨[], given_nil⟩
    · simp [Value.cells] at hcs
      obtain ⟨rfl, rfl, rfl⟩ := hcs
      exact ⟨_, given_row hl (by simpa using hz) hcell hwz⟩
  obtain ⟨a1, len1, cap1, rfl⟩ := okWide_slice Try.underlying23 (hval 1 23 v1 rfl rfl)
  have k1 := h1
  have lt1 : ∀ x ∈ p1, x.block < W.heap.size := by obtain ⟨m, hm⟩ := k1; exact DataW.trod_lt m _ _ _ hm
  obtain ⟨n1, D1, U1, I1, F1, T1, M1, w1⟩ : ∃ n D U I F T M, Asks W (.slice a1 len1 cap1) n D U I F T M := by
    obtain ⟨fuel, hf⟩ := h1
    obtain ⟨v, n, D, U, I, F, T, M, hcs, hw⟩ := asks_of hf
    have hv : v = .slice a1 len1 cap1 := by simpa [Value.cells] using hcs.symm
    subst hv
    exact ⟨n, D, U, I, F, T, M, hw⟩
  clear hA0 hval0
  refine (walk a0 len0 cap0 z0 (.slice a1 len1 cap1) n1 D1 U1 I1 F1 T1 M1 W w0 w1).mono fun e W' ⟨he, bel⟩ => ?_
  subst he
  exact ⟨_, rfl, _, _, _, [], _, [], hW', trodAll_mk1 (shut_bool Try.underlying4 _), (trodAll_cons_mk (Below.trod laidOut (by kernel_rfl) (of_decide_eq_true (by kernel_rfl)) k0 bel lt0) (trodAll_cons_mk (Below.trod laidOut (by kernel_rfl) (of_decide_eq_true (by kernel_rfl)) k1 bel lt1) trodAll_mk0)), rfl, bel.frame _, fun h => by cases h⟩

theorem over : Rows.bufReadsRow.holds Try.pinned (OpenSpec.ofChange Rows.bufReadsSpec) :=
  OpenClaim.holds_of_wide 3 Try.f3 rfl rfl rfl rfl rfl rfl rfl ⟨rfl, rfl, rfl, rfl, rfl⟩ rfl rfl rfl rfl rfl (by kernel_rfl) Try.func3 (by kernel_rfl)
    (of_decide_eq_true (by kernel_rfl)) (by unfold Func.isWrapper; first | (rw [if_pos (by decide +kernel)]; kernel_rfl) | (rw [if_neg (by decide +kernel)]; exact ⟨rfl, rfl⟩))
    (fun os started H enc _ => lifted os started H enc)
end Go.Proofs.Ytmganccajcpcbaa.bufReads
namespace Go.Proofs.Ytmganccajcpcbaa
/-- The statement. -/
theorem bufReads_holds : Rows.BufReadsSaid := bufReads.over
#print axioms bufReads_holds
end Go.Proofs.Ytmganccajcpcbaa
