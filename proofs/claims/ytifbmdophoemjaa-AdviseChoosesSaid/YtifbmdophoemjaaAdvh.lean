/- Layer 18: the reference's Choose. -/
import Derived.Test.YtifbmdophoemjaaAdvg
namespace Go.Proofs.Ytifbmdophoemjaa
set_option maxRecDepth 100000
open Go.RowKit
set_option linter.unusedVariables false
/-- The best so far as the reference keeps it: its index, or none. -/
def atB (b : Nat) (m : Int) : Int := if m = 0 then -1 else (b : Int)
theorem atB_none (b : Nat) : atB b 0 = -1 := if_pos rfl
theorem atB_some {b : Nat} {m : Int} (h : ¬ m = 0) : atB b m = (b : Int) := if_neg h
set_option maxHeartbeats 8000000 in
theorem rchoose_any (w : World) (k : Int) (sv : Value) (s : List Int) (hk : (Lit.int .i64 k).wf = true) (hs : Szs w sv s) (ho : Okz s) (h0 : 0 < s.length) (hl : s.length ≤ 64) :
    Calls Try.prog 13 #[sv, .int .i64 k] w fun e w' => (∃ u, e = .returned u ∧ Msk w' u (choN s k.toNat)) ∧ Below w.heap.size w w' := by
  have HS := Lib.hid hs
  have HI := Lib.hid (fun j => (cho_is s j).2.1)
  have HLn := Lib.hid (fun j => cho_len s j)
  have HC := Lib.hid (fun wr uv vs (hb : Below w.heap.size w wr) (hu : Msk wr uv vs) (hv : ∀ v ∈ vs, v < s.length) (hvl : vs.length ≤ 1000000) => rcost_any wr sv uv s vs (hs.below hb) hu ho h0 hv hl hvl)
  have HCr := Lib.hid (fun vs (hv : ∀ v ∈ vs, v < s.length) => @cost_range s ho h0 hl vs hv)
  have HCs := Lib.hid (fun vs v => cost_snoc s vs v)
  have HN := Lib.hid (fun j h => @cho_next s j h)
  have HSt := Lib.hid (fun j h => (@step_new s (choN s j) h).1)
  have HEn := Lib.hid (fun j k h => @cho_end s j k h)
  have HSp := Lib.hid (fun vs => show bestN (savedN s vs) s.length = stepN s vs from rfl)
  have HBn := Lib.hid (fun vs => best_next (savedN s vs))
  have HB0 := Lib.hid (fun vs => show bestN (savedN s vs) 0 = (0, 0) from rfl)
  have HBp := Lib.hid (fun vs i => best_nn (savedN s vs) i)
  have HBl := Lib.hid (fun vs i => best_lt (savedN s vs) i)
  have H0 := Lib.hid (show choN s 0 = [] from rfl)
  have hkw := wf_i18 hk
  obtain ⟨q, qc, rfl⟩ := hs.len
  clear hs ho hk
  go_enter Try.func13, Try.ntmps13
  go_wp2_with fail
  go_loopw [5] (fun ov wr => ∃ (j : Nat) (pa : Option Addr) (pc : Nat), j ≤ k.toNat ∧ ov = .slice pa j pc ∧ Hid ((choN s j).length = j) ∧ Hid (UOwn wr w.heap.size ov (choN s j)) ∧ Hid (Below w.heap.size w wr)) (fun ov _ => k.toNat - (match ov with | .slice _ n _ => n | _ => 0))
  case atStart => exact ⟨0, _, _, Nat.zero_le _, rfl, Lib.hid (by rw [H0.out]; rfl), Lib.hid (by rw [H0.out]; exact UOwn.nil w _), Lib.hid (Below.refl _ _)⟩
  case round =>
    obtain ⟨j, pa, pc, hj, rfl, HJl, HO, HW⟩ := hrel
    by_cases hlt : j < k.toNat
    · have hlt' : (j : Int) < k := by omega
      have hj64 : j ≤ 64 := by have := HLn.out j; rw [HJl.out] at this; omega
      have HCj := Lib.hid (HC.out wr _ _ HW.out HO.out.msk (HI.out j) (by rw [HJl.out]; omega))
      have HCrj := Lib.hid (HCr.out _ (HI.out j))
      have HSp2 := Lib.hid (HSp.out (choN s j))
      have HBn2 := Lib.hid (HBn.out (choN s j))
      have HB02 := Lib.hid (HB0.out (choN s j))
      have HBp2 := Lib.hid (HBp.out (choN s j))
      have HBl2 := Lib.hid (HBl.out (choN s j))
      have HCs2 := Lib.hid (HCs.out (choN s j))
      have HIj := Lib.hid (HI.out j)
      have HNj := Lib.hid (HN.out j)
      have HStj := Lib.hid (HSt.out j)
      have HEnj := Lib.hid (HEn.out j)
      clear HSp HBn HB0 HBp HBl HCs HI HN HSt HEn HLn
      generalize hX : choN s j = X at *
      generalize stepN s X = Z at *
      generalize savedN s X = F at *
      generalize hnow : costN s X = now at *
      go_wp2_with fail
      refine HCj.out.mono ?_; rintro e w1 ⟨rfl, rfl⟩
      go_wp2_with fail
      generalize decide ((j : Int) < k) = b14 at *
      generalize wr = R0 at *
      go_loopw [9, 7, 8] (fun iv mv av wr => ∃ (i b : Nat) (m : Int), i ≤ s.length ∧ iv = .int .i64 i ∧ mv = .int .i64 (now - m) ∧ av = .int .i64 (atB b m) ∧ Hid (bestN F i = (b, m)) ∧ Hid (Below R0.heap.size R0 wr)) (fun iv _ _ _ => s.length - (intOf iv).toNat)
      case atStart => exact ⟨0, 0, 0, Nat.zero_le _, rfl, by rw [Int.sub_zero], by rw [atB_none], HB02, Lib.hid (Below.refl _ _)⟩
      case round =>
        obtain ⟨i, b, m, hi, rfl, rfl, rfl, HB, HQ⟩ := hrel
        by_cases hlti : i < s.length
        · have hlti' : (i : Int) < (s.length : Int) := by omega
          have hcw := u32_small (show i < 4294967296 by omega)
          have HXo := Lib.hid (UOwn.below HO.out HQ.out)
          have hbn := HBn2.out i
          rw [HB.out] at hbn
          have hmp := HBp2.out i
          rw [HB.out] at hmp
          have hmp' : 0 ≤ m := hmp
          have hva : ∀ v ∈ X ++ [i], v < s.length := fun v hv => by
            rcases List.mem_append.1 hv with h | h
            · exact HIj.out v h
            · obtain rfl := List.mem_singleton.1 h
              exact hlti
          have hCr2 := HCr.out _ hva
          have hCs := HCs2.out i
          rw [hCs] at hCr2
          have HCv := Lib.hid (fun wz uv (hb : Below w.heap.size w wz) (hu : Msk wz uv (X ++ [i])) => show Calls Try.prog 10 #[.slice q s.length qc, uv] wz fun e w' => e = .returned (.int .i64 (now - F i)) ∧ wz = w' from by
            have h := HC.out wz uv (X ++ [i]) hb hu hva (by rw [List.length_append, HJl.out]; simp; omega)
            rw [hCs] at h
            exact h)
          have HWq := Lib.hid (below_then HW.out HQ.out)
          clear HCj hCs hva hmp
          by_cases hm : m < F i
          · have hbn2 : bestN F (i + 1) = (i, F i) := by rw [hbn]; exact if_pos hm
            have HB3 := Lib.hid hbn2
            have hf0 : ¬ F i = 0 := by omega
            have HA3 := Lib.hid (@atB_some i (F i) hf0)
            have hcmp : now - F i < now - m := by omega
            clear hbn hbn2 HB hm hf0
            generalize F i = y at *
            go_wp2_with (first
              | (at_builtin; refine wpList_app17 _ (by rfl) _ _ (by rfl) wr.heap.size _ _ [] X (by rfl) (by rfl) (World.ownsRow_lit wr #[] 0 (Nat.le_refl _) (by decide) rfl) (HXo.out.msk.below (below_one wr _)) (by rw [HJl.out]; simp; omega) (by simp) ?_; intro v6 w6 hown6 hg6; rw [List.nil_append] at hown6; have HO6 := Lib.hid hown6; have HB6 := Lib.hid (lit_more17 hg6); obtain ⟨p6, n6, c6, rfl⟩ := UOwn.shape hown6; clear hown6 hg6)
              | (at_builtin; refine wpList_app17 _ (by rfl) _ _ (by rfl) wr.heap.size _ _ X [i] (by rfl) (by rfl) (HO6.out.alloc _) (one17 w6 i) (by rw [HJl.out]; simp; omega) (by have := HB6.out.size; simp; omega) ?_; intro v7 w7 hown7 hg7; have HO7 := Lib.hid hown7; have HB7 := Lib.hid ((HB6.out.alloc HB6.out.size (.cells #[.int .u32 (i : Int)] 29)).grown hg7 (by have := HB6.out.size; simp; omega) (fun j hj => (HO6.out.lt j hj).1)); obtain ⟨p7, n7, c7, rfl⟩ := UOwn.shape hown7; clear hown7 hg7))
            refine (HCv.out _ _ (below_then HWq.out HB7.out) HO7.out.msk).mono ?_; rintro e w8 ⟨rfl, rfl⟩
            have HQ2 := Lib.hid (below_then HQ.out HB7.out)
            clear HQ HO7 HO6 HB6 HB7 HXo HWq HCv
            go_wp2_with fail
            go_roundw
            case rel => exact ⟨i + 1, i, y, by omega, by go_num, rfl, by rw [HA3.out], HB3, HQ2⟩
            case measure => simp [intOf]; omega
          · have hbn2 : bestN F (i + 1) = (b, m) := by rw [hbn]; exact if_neg hm
            have HB3 := Lib.hid hbn2
            have hcmp : ¬ now - F i < now - m := by omega
            clear hbn hbn2 HB hm
            generalize F i = y at *
            generalize hab : atB b m = ab at *
            have HAB := Lib.hid hab
            clear hab
            go_wp2_with (first
              | (at_builtin; refine wpList_app17 _ (by rfl) _ _ (by rfl) wr.heap.size _ _ [] X (by rfl) (by rfl) (World.ownsRow_lit wr #[] 0 (Nat.le_refl _) (by decide) rfl) (HXo.out.msk.below (below_one wr _)) (by rw [HJl.out]; simp; omega) (by simp) ?_; intro v6 w6 hown6 hg6; rw [List.nil_append] at hown6; have HO6 := Lib.hid hown6; have HB6 := Lib.hid (lit_more17 hg6); obtain ⟨p6, n6, c6, rfl⟩ := UOwn.shape hown6; clear hown6 hg6)
              | (at_builtin; refine wpList_app17 _ (by rfl) _ _ (by rfl) wr.heap.size _ _ X [i] (by rfl) (by rfl) (HO6.out.alloc _) (one17 w6 i) (by rw [HJl.out]; simp; omega) (by have := HB6.out.size; simp; omega) ?_; intro v7 w7 hown7 hg7; have HO7 := Lib.hid hown7; have HB7 := Lib.hid ((HB6.out.alloc HB6.out.size (.cells #[.int .u32 (i : Int)] 29)).grown hg7 (by have := HB6.out.size; simp; omega) (fun j hj => (HO6.out.lt j hj).1)); obtain ⟨p7, n7, c7, rfl⟩ := UOwn.shape hown7; clear hown7 hg7))
            refine (HCv.out _ _ (below_then HWq.out HB7.out) HO7.out.msk).mono ?_; rintro e w8 ⟨rfl, rfl⟩
            have HQ2 := Lib.hid (below_then HQ.out HB7.out)
            clear HQ HO7 HO6 HB6 HB7 HXo HWq HCv
            go_wp2_with fail
            go_roundw
            case rel => exact ⟨i + 1, b, m, by omega, by go_num, rfl, by rw [HAB.out], HB3, HQ2⟩
            case measure => simp [intOf]; omega
        · have hin : i = s.length := by omega
          subst hin
          have hlti' : ¬ (s.length : Int) < (s.length : Int) := by omega
          have hZ := HSp2.out.symm.trans HB.out
          subst hZ
          have HWq := Lib.hid (below_then HW.out HQ.out)
          have HXo := Lib.hid (UOwn.below HO.out HQ.out)
          by_cases hm : m = 0
          · subst hm
            rw [atB_none]
            have HR := Lib.hid (HEnj.out k.toNat rfl (by omega))
            clear HNj HStj HEnj HC HCr HCj HCrj HSp2 HBn2 HB02 HBp2 HBl2 HCs2
            go_wp2_with fail
            go_ret
            exact ⟨⟨_, rfl, by rw [HR.out]; exact HXo.out.msk⟩, HWq.out⟩
          · rw [atB_some hm]
            have HR := Lib.hid (HNj.out hm)
            have hbs : b < s.length := HStj.out hm
            have hcw := u32_small (show b < 4294967296 by omega)
            have hb0 : ¬ (b : Int) < 0 := by omega
            clear HNj HStj HEnj HC HCr HCj HCrj HSp2 HBn2 HB02 HBp2 HBl2 HCs2 hm
            have hwl : w.heap.size ≤ wr.heap.size := HWq.out.size
            go_wp2_with (at_builtin; refine wpList_app17 _ (by rfl) _ _ (by rfl) w.heap.size _ _ X [b] (by rfl) (by rfl) (HXo.out.alloc _) (one17 wr b) (by rw [HJl.out]; simp; omega) (by simp; omega) ?_; intro v6 w6 hown6 hg6; have HO6 := Lib.hid hown6; have HW6 := Lib.hid ((HWq.out.alloc hwl (.cells #[.int .u32 (b : Int)] 29)).grown hg6 (by simp; omega) (fun j hj => (HXo.out.lt j hj).1)); obtain ⟨p6, c6, rfl⟩ := UOwn.form hown6; clear hown6 hg6)
            go_roundw
            case rel => exact ⟨j + 1, p6, c6, by omega, by rw [HJl.out], Lib.hid (by rw [HR.out, List.length_append, HJl.out]; rfl), by rw [HR.out]; have h6 := HO6.out; rw [List.length_append] at h6; exact Lib.hid h6, HW6⟩
            case measure => have hjl := HJl.out; simp only [hjl]; omega
    · have hR : j = k.toNat := by omega
      have hlt' : ¬ (j : Int) < k := by omega
      subst hR
      clear HN HSt HEn HI HC HCr HCs HSp HBn HB0 HBp HBl
      go_wp2_with fail
      go_ret
      exact ⟨⟨_, rfl, HO.out.msk⟩, HW.out⟩
end Go.Proofs.Ytifbmdophoemjaa
