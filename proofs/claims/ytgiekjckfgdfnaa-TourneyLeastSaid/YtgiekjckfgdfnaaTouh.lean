/- Layer 16: the reference's Least and Ints; the program's Sort. -/
import Derived.Test.YtgiekjckfgdfnaaToug
namespace Go.Proofs.Ytgiekjckfgdfnaa
set_option maxRecDepth 100000
open Go.RowKit
set_option linter.unusedVariables false
def RowI (w : World) (V : Nat) (R : List Nat) : Prop := w.heap[V]? = some (.cells (intsN R).toArray 3 (0, 0))
theorem RowI.keep {w w' : World} {V : Nat} {R : List Nat} (h : RowI w V R) (hb : Below w.heap.size w w') : RowI w' V R := (hb.block _ (Array.getElem?_eq_some_iff.1 h).1).trans h
theorem RowI.set {w : World} {V i x : Nat} {R : List Nat} (h : RowI w V R) : RowI (w.setCell ⟨V, i, none⟩ (.int .i64 (x : Int))) V (R.set i x) := by
  unfold RowI at *
  have e : (intsN (R.set i x)).toArray = (intsN R).toArray.setIfInBounds i (.int .i64 (x : Int)) := by
    rw [List.setIfInBounds_toArray]
    simp [intsN, List.map_set]
  rw [e]
  simp [World.setCell, Array.getElem?_modify, h]
theorem RowI.at {w : World} {V i : Nat} {R : List Nat} (h : RowI w V R) (hi : i < R.length) : w.cell? ⟨V, i, none⟩ = some (.int .i64 (hg R i : Nat)) ∧ w.frozen? ⟨V, i, none⟩ = false := by
  unfold RowI at h
  exact ⟨by simp [World.cell?, h, intsN, hg, hi], by simp [World.frozen?, h]⟩
theorem RowI.own {w : World} {B V : Nat} {R : List Nat} (h : RowI w V R) (hB : B ≤ V) (hl : R.length ≤ 1000) : w.ownsRow B 3 1 (.slice (some ⟨V, 0, none⟩) R.length R.length) R.length (intsN R) :=
  ⟨by simp [intsN], .inr ⟨V, R.length, _, rfl, hB, h, Nat.le_refl _, by unfold maxLen; omega, by simp [intsN], by rw [Nat.mul_one]; exact List.take_of_length_le (by simp [intsN])⟩⟩
theorem row_made {w : World} {V n B : Nat} (h : w.ownsRow B 3 1 (.slice (some ⟨V, 0, none⟩) n n) n (madeCells (Value.int .i64 0).cells (n * 1)).toList) : RowI w V (List.replicate n 0) := by
  rw [show (Value.int .i64 0).cells = #[Value.int .i64 0] from rfl, toList_madeCells_one, Nat.mul_one] at h
  rcases h.2 with ⟨e, -⟩ | ⟨g, cap, cur, e, -, h3, -, -, h6, h7⟩
  · cases e
  · simp only [Value.slice.injEq, Option.some.injEq, Addr.mk.injEq, and_true, true_and] at e
    obtain ⟨rfl, rfl⟩ := e
    rw [List.take_of_length_le (by rw [Array.length_toList, h6]; omega)] at h7
    unfold RowI
    rw [h3]
    congr 2
    apply Array.ext'
    rw [h7]
    simp [intsN]
theorem rless_drew (w : World) (u v : Value) (a b : List Int) (hu : Ints .u8 w u a) (hv : Ints .u8 w v b) (la : a.length ≤ 1000) (lb : b.length ≤ 1000) (n : Nat) :
    Calls Try.prog 13 #[u, v] (w.drewN n) fun e w' => e = .returned (.bool (lessL a b)) ∧ ∃ m, w' = (w.drewN n).drewN m :=
  rless_bytes u v a b (w.drewN n) (hu.below ((Drawn.refl w).next n).below) (hv.below ((Drawn.refl w).next n).below) (by omega) (by omega)
theorem puts_zero (lt : Nat → Nat → Bool) (N : Nat) (R : List Nat) : PutsL lt N 0 R := fun j hj => by omega
theorem count_step (p : Nat → Bool) (c : Nat) : (List.range (c + 1)).countP p = (List.range c).countP p + if p c = true then 1 else 0 := by
  rw [List.range_succ, List.countP_append]
  simp [List.countP_cons]
set_option maxHeartbeats 16000000 in
theorem rleast16_any (w : World) (v : Value) (Ls : List (List Int)) (k : Int) (h : Byss w v Ls) (hbl : ∀ l ∈ Ls, l.length ≤ 1000) (hn : Ls.length ≤ 1000) (hk0 : -9223372036854775808 ≤ k) (hk1 : k ≤ 9223372036854775807) :
    Calls Try.prog 7 #[v, .int .i64 k] w fun e w' => (∃ u, e = .returned u ∧ ∃ R, R.length = (min k Ls.length).toNat ∧ PutsL (ltB fun k => Ls.getD k []) Ls.length Ls.length R ∧ w'.ownsRow w.heap.size 3 1 u R.length (intsN R)) ∧ Below w.heap.size w w' := by
  obtain ⟨i0, hi, hz0, hz1, hz2⟩ := info_parts Try.infoInt16
  have HO := Lib.hid (ltB_ord fun k => Ls.getD k [])
  have HB := Lib.hid h
  have HL := Lib.hid (fun w1 u v i j (hi : i < Ls.length) (hj : j < Ls.length) (hu : Ints .u8 w1 u (Ls.getD i [])) (hv : Ints .u8 w1 v (Ls.getD j [])) => rless_drew w1 u v _ _ hu hv (hbl _ (getD_mem hi)) (hbl _ (getD_mem hj)))
  have HLt := Lib.hid (fun i j => show (ltB fun k => Ls.getD k []) i j = (lessL (Ls.getD i []) (Ls.getD j []) || (decide (i < j) && !lessL (Ls.getD j []) (Ls.getD i []))) from rfl)
  obtain ⟨va, vc, rfl, -⟩ := h.r
  clear h hbl
  generalize hlt : (ltB fun k => Ls.getD k []) = lt at *
  clear hlt
  have HN := Lib.hid hn
  obtain ⟨m, hm⟩ : ∃ m : Nat, max (min k Ls.length) 0 = (m : Int) := ⟨(min k Ls.length).toNat, by omega⟩
  have hm2 : (min k Ls.length).toNat = m := by omega
  have hm3 : m ≤ 1000 := by omega
  rw [hm2]
  go_enter Try.func7, Try.ntmps7
  go_wp2_with (at_make; refine wpList_make_full _ rfl _ _ 26 rfl w.heap.size 3 i0 (.int .i64 0) 1 Try.underlying26 hi hz0 hz1 .i64 .i64 _ _ m rfl rfl (by first | exact hm | omega) (by first | exact hm | omega) (by rw [hz2]; omega) (by unfold maxLen; omega) (Nat.le_refl _) ?_; intro w1 hown hgrow; have HR0 := Lib.hid (row_made hown); have HB0 := Lib.hid (show Below w.heap.size w w1 from ⟨hgrow.os, hgrow.tape, hgrow.output, hgrow.size, fun j hj => hgrow.block j hj (by simp)⟩); clear hown hgrow)
  have hz : List.length (List.replicate m 0) = m := List.length_replicate
  go_loopw [6] (fun iv wr => ∃ (t : Nat) (R : List Nat), t ≤ Ls.length ∧ iv = .int .i64 t ∧ R.length = m ∧ Hid (RowI wr w.heap.size R ∧ Below w.heap.size w wr) ∧ Hid (PutsL lt Ls.length t R)) (fun iv _ => Ls.length - (intOf iv).toNat)
  case atStart => exact ⟨0, _, Nat.zero_le _, rfl, hz, Lib.hid ⟨HR0.out, HB0.out⟩, Lib.hid (puts_zero _ _ _)⟩
  case round =>
    obtain ⟨t, R, ht, rfl, hR, HI, HP⟩ := hrel
    by_cases hl : t < Ls.length
    · have hl' : (t : Int) < (Ls.length : Int) := by omega
      go_wp2_with fail
      go_loopw [8, 7] (fun jv cv wr => ∃ c : Nat, c ≤ Ls.length ∧ jv = .int .i64 c ∧ cv = .int .i64 ((List.range c).countP fun x => lt x t) ∧ Hid (RowI wr w.heap.size R ∧ Below w.heap.size w wr)) (fun jv _ _ => Ls.length - (intOf jv).toNat)
      case atStart => exact ⟨0, Nat.zero_le _, rfl, rfl, HI⟩
      case round =>
        clear HI
        obtain ⟨c, hc, rfl, rfl, HI⟩ := hrel
        by_cases hlc : c < Ls.length
        · have hlc' : (c : Int) < (Ls.length : Int) := by omega
          obtain ⟨bb, off, qj, rfl, -, cj, Ij⟩ := (HB.out.below HI.out.2).at hlc
          obtain ⟨b2, off2, qi, e, -, ci, Ii⟩ := (HB.out.below HI.out.2).at hl
          injection e with e; injection e with e1 e2
          subst e1 e2
          have H1 := Lib.hid (HL.out _ qj qi c t hlc hl Ij Ii)
          have H2 := Lib.hid (HL.out _ qi qj t c hl hlc Ii Ij)
          have HLx := Lib.hid (HLt.out c t)
          have HCs := Lib.hid (count_step (fun x => lt x t) c)
          have hcl : (List.range c).countP (fun x => lt x t) ≤ c := Nat.le_trans List.countP_le_length (by simp)
          have HD := Lib.hid (fun n => ((Drawn.refl wr).next n).below)
          obtain ⟨pi, ni, ki, rfl⟩ : ∃ a n c, qi = .slice a n c := by obtain ⟨a, c, rfl, -⟩ := Ii; exact ⟨_, _, _, rfl⟩
          obtain ⟨pj, nj, kj, rfl⟩ : ∃ a n c, qj = .slice a n c := by obtain ⟨a, c, rfl, -⟩ := Ij; exact ⟨_, _, _, rfl⟩
          clear Ii Ij
          generalize lessL (Ls.getD c []) (Ls.getD t []) = pp at *
          generalize lessL (Ls.getD t []) (Ls.getD c []) = qq at *
          generalize (List.range c).countP (fun x => lt x t) = cc at *
          go_wp2_with fail
          cases pp with
          | true =>
            go_quiet ((go_at_call 13; with_reducible exact Calls.quiet_of (H1.out _)))
            have hd := HD.out nq
            have HR2 := Lib.hid (HI.out.1.keep hd)
            have HB2 := Lib.hid (below_then HI.out.2 hd)
            have HC2 := Lib.hid (show (List.range (c + 1)).countP (fun x => lt x t) = cc + 1 from HCs.out.trans (by rw [HLx.out]; simp))
            clear hd
            go_wp2
            go_roundw
            case rel => exact ⟨c + 1, by omega, by go_num, by rw [HC2.out]; go_num, Lib.hid ⟨HR2.out, HB2.out⟩⟩
            case measure => simp [intOf]; omega
          | false =>
            by_cases hij : c < t
            · have hd2 : decide (c < t) = true := decide_eq_true hij
              have hij' : (c : Int) < (t : Int) := by omega
              rw [hd2] at HLx
              clear hij hd2
              cases qq with
              | true =>
                go_quiet ((first | (go_at_call 13; with_reducible exact Calls.quiet_of (H1.out _)) | (go_at_call 13; with_reducible exact Calls.quiet_of (H2.out _))))
                have hd := HD.out nq
                have HR2 := Lib.hid (HI.out.1.keep hd)
                have HB2 := Lib.hid (below_then HI.out.2 hd)
                have HC2 := Lib.hid (show (List.range (c + 1)).countP (fun x => lt x t) = cc from HCs.out.trans (by rw [HLx.out]; simp))
                clear hd
                go_wp2
                go_roundw
                case rel => exact ⟨c + 1, by omega, by go_num, by rw [HC2.out], Lib.hid ⟨HR2.out, HB2.out⟩⟩
                case measure => simp [intOf]; omega
              | false =>
                go_quiet ((first | (go_at_call 13; with_reducible exact Calls.quiet_of (H1.out _)) | (go_at_call 13; with_reducible exact Calls.quiet_of (H2.out _))))
                have hd := HD.out nq
                have HR2 := Lib.hid (HI.out.1.keep hd)
                have HB2 := Lib.hid (below_then HI.out.2 hd)
                have HC2 := Lib.hid (show (List.range (c + 1)).countP (fun x => lt x t) = cc + 1 from HCs.out.trans (by rw [HLx.out]; simp))
                clear hd
                go_wp2
                go_roundw
                case rel => exact ⟨c + 1, by omega, by go_num, by rw [HC2.out]; go_num, Lib.hid ⟨HR2.out, HB2.out⟩⟩
                case measure => simp [intOf]; omega
            · have hd2 : decide (c < t) = false := decide_eq_false hij
              rw [hd2] at HLx
              clear hij
              go_quiet ((go_at_call 13; with_reducible exact Calls.quiet_of (H1.out _)))
              have hd := HD.out nq
              have HR2 := Lib.hid (HI.out.1.keep hd)
              have HB2 := Lib.hid (below_then HI.out.2 hd)
              have HC2 := Lib.hid (show (List.range (c + 1)).countP (fun x => lt x t) = cc from HCs.out.trans (by rw [HLx.out]; simp))
              clear hd
              go_wp2
              go_roundw
              case rel => exact ⟨c + 1, by omega, by go_num, by rw [HC2.out], Lib.hid ⟨HR2.out, HB2.out⟩⟩
              case measure => simp [intOf]; omega
        · have e : c = Ls.length := by omega
          subst e
          have HCn := Lib.hid (show (List.range Ls.length).countP (fun x => lt x t) = aheadN lt Ls.length t from rfl)
          have hcl : (List.range Ls.length).countP (fun x => lt x t) ≤ Ls.length := Nat.le_trans List.countP_le_length (by simp)
          have HPs := Lib.hid (puts_step HO.out HP.out hl)
          rw [← HCn.out] at HPs
          generalize (List.range Ls.length).countP (fun x => lt x t) = cc at *
          rw [hR] at HPs
          by_cases hcm : cc < m
          · have hcm' : (cc : Int) < (m : Int) := by omega
            obtain ⟨y0, y1⟩ := HI.out.1.at (i := cc) (by omega)
            have HR2 := Lib.hid (HI.out.1.set (i := cc) (x := t))
            have HB2 := Lib.hid (show Below w.heap.size w (wr.setCell ⟨w.heap.size, cc, none⟩ (.int .i64 (t : Int))) from HI.out.2.setCell (Nat.le_refl _) _)
            rw [if_pos hcm] at HPs
            go_wp2_with fail
            go_roundw
            case rel => exact ⟨t + 1, R.set cc t, by omega, by go_num, by simpa using hR, Lib.hid ⟨HR2.out, HB2.out⟩, HPs⟩
            case measure => simp [intOf]; omega
          · have hcm' : ¬ (cc : Int) < (m : Int) := by omega
            rw [if_neg hcm] at HPs
            go_wp2_with fail
            go_roundw
            case rel => exact ⟨t + 1, R, by omega, by go_num, hR, HI, HPs⟩
            case measure => simp [intOf]; omega
    · have e : t = Ls.length := by omega
      subst e
      have hl' : ¬ (Ls.length : Int) < (Ls.length : Int) := by omega
      go_wp2_with fail
      go_ret
      exact ⟨⟨_, rfl, R, hR, HP.out, by have := HI.out.1.own (Nat.le_refl _) (by omega); rw [hR] at this ⊢; exact this⟩, HI.out.2⟩
end Go.Proofs.Ytgiekjckfgdfnaa
