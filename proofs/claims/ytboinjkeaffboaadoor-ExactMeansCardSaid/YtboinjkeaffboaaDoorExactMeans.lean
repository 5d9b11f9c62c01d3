/- ExactMeans: for any list of floats and any number the statement's function returns true and changes nothing that was there. No condition; the row lists the two tables of math/bits as the program's text lays them. -/
import Derived.Test.YtboinjkeaffboaaDoorRows
import Derived.Test.YtboinjkeaffboaaDoorCards
import Derived.Test.YtboinjkeaffboaaDoorTie
import Derived.Test.YtboinjkeaffboaaDoorExy
import Derived.Test.YtboinjkeaffboaaDoorExz
import Derived.SevenTiedAt
import Derived.Deep.RegionHeld3
import Derived.Deep.QuietTactic
import Derived.BigQuiet
namespace Go.Proofs.YtboinjkeaffboaaDoor.exactMeans
set_option maxRecDepth 100000
open Go.ChangeShapes Go.WideShapes Go.ChangeAt Go.RowKit
set_option linter.unusedVariables false
theorem meanW_w64 (f : Nat) (t n : Int) : W64 (meanW f t n) := by
  unfold meanW
  split
  · decide
  · split
    · exact valueW_w64 f t
    · exact sign_fits4 _ (nearQ_w64 (by omega))
set_option maxHeartbeats 8000000 in
theorem walk_short (p : Option Addr) (n c : Nat) (xs : List Nat) (d : Int) (w : World) (g : Flts w (.slice p n c) xs) (hn : n ≤ 40) (d0 : -9223372036854775808 ≤ d) (d1 : d ≤ 9223372036854775807) (hT : Tab w) (hT2 : Tab64 w) :
    Calls Tryd.prog 4 #[.slice p n c, .int .i64 d] w fun r w' => r = .returned (.bool true) ∧ Below w.heap.size w w' := by
  have hnl := flts_len g
  have HXs := Lib.hid (w64_list g.2)
  have HG := Lib.hid (fun w1 (h : Below w.heap.size w w1) => g.below h)
  have HCell := Lib.hid (fun (k : Nat) (hk : k < n) => g.cell (i := k) (by omega))
  have HT := Lib.hid (fun w1 (h : Below w.heap.size w w1) => And.intro (hT.call h) (hT2.call h))
  have HA := Lib.hid (fun w1 (h : Below w.heap.size w w1) => awake5_any w1 (hT.call h) (hT2.call h))
  have HL := Lib.hid hnl
  have hn' : (n : Int) ≤ 40 := by omega
  have h1 := below_one w (.cells #[.slice none 0 0, .bool false, .int .u8 0, .bool true] 60)
  have h2 := sum_new w
  have H0 := Lib.hid (And.intro h2 h1)
  clear g hT hT2 hnl h1 h2
  go_enter Tryd.func4, Tryd.ntmps4
  go_wp2_with (first | ((with_reducible refine (xnew_any _).mono ?_); rintro e w1 ⟨rfl, rfl⟩))
  go_loopw [6] (fun i wr => ∃ k : Nat, k ≤ n ∧ i = .int .i64 k ∧ Hid (SumAt wr w.heap.size (totF (xs.take k)) (totT (xs.take k))) ∧ Hid (Below w.heap.size w wr)) (fun i _ => n - (intOf i).toNat)
  case atStart => exact ⟨0, Nat.zero_le _, rfl, Lib.hid (by rw [List.take_zero]; exact H0.out.1), Lib.hid H0.out.2⟩
  case round =>
    obtain ⟨k, hk, rfl, hsa, hb⟩ := hrel
    clear H0
    by_cases hlt : k < n
    · obtain ⟨b, off, hp, hbl, hcell0⟩ := HCell.out k hlt
      have hcell := (hb.out.cell (p := ⟨b, off + k, none⟩) hbl).trans hcell0
      have HP := Lib.hid (padd_list wr w.heap.size (xs.getD k 0) (xs.take k) hsa.out (mem_take64 HXs.out k) (list_w64 HXs.out k) (by rw [List.length_take]; omega) (HT.out wr hb.out).2)
      rw [← take_snocN xs k (by rw [HL.out]; omega)] at HP
      generalize xs.getD k 0 = x at *
      unfold JoinP at HP
      subst hp
      clear hbl hcell0 hsa
      go_wp2_with fail
      refine (HP.out).mono ?_; rintro e w3 ⟨rfl, h1, h2⟩
      have H1 := Lib.hid h1
      have H3 := Lib.hid (hb.out.grown h2 hb.out.size (fun j hj => by simp only [Option.some.injEq] at hj; omega))
      clear h1 h2 HP hcell
      go_wp2_with fail
      go_roundw
      case rel => exact ⟨k + 1, by omega, by go_num, H1, H3⟩
      case measure => simp [intOf]; omega
    · obtain rfl : k = n := by omega
      obtain ⟨wo, rfl⟩ : ∃ wo, wo = wr := ⟨_, rfl⟩
      have htk : xs.take k = xs := List.take_of_length_le (by rw [HL.out]; omega)
      have hst := hsa.out
      rw [htk] at hst
      have HM := Lib.hid (fun w1 (h : Below wo.heap.size wo w1) (m : Int) (hm : m ≤ 9223372036854775807) => xmean_any w1 w.heap.size (totF xs) (totT xs) m (hst.below h) hm (HT.out w1 (below_then hb.out h)).1)
      have HO := Lib.hid (fun w1 (h : Below wo.heap.size wo w1) => rsof_any (.slice p k c) xs w1 (HG.out w1 (below_then hb.out h)) (by rw [HL.out]; omega))
      have HRM := Lib.hid (fun w1 v (h : SumV w1 v (totF xs) (totT xs)) => rsmean_any w1 v _ _ d h d1)
      have hR := meanW_w64 (totF xs) (totT xs) d
      have HS := Lib.hid (fun w3 X (hX : W64 X) (hs : sameB (meanW (totF xs) (totT xs) d) X = true) => show Calls Tryd.prog 14 #[.float .f64 (meanW (totF xs) (totT xs) d), .float .f64 X] w3 (fun e w' => e = .returned (.bool true) ∧ Drawn w3 w') by have h := rsame_any (meanW (totF xs) (totT xs) d) X w3 hR hX; rw [hs] at h; exact h)
      unfold ValueP at HM
      unfold ROfP at HO
      unfold RMeanP at HRM
      have HMd := Lib.hid (fun w1 h => HM.out w1 h d d1)
      have HB := Lib.hid hb.out
      generalize meanW (totF xs) (totT xs) d = R at HMd HRM HS hR
      clear hst hsa htk hR HG hb
      go_wp2_with fail
      refine (HMd.out _ (Below.refl _ _)).mono ?_; rintro e w2 ⟨rfl, hb2⟩
      have HB2 := Lib.hid hb2
      clear hb2 HMd
      go_wp2_with fail
      refine (HO.out _ HB2.out).mono ?_; rintro e w3 ⟨⟨v, rfl, hv⟩, hb3⟩
      have HB3 := Lib.hid (below_then HB2.out hb3)
      have HV := Lib.hid hv
      clear hb3 hv HO HB2
      go_wp2_with fail
      refine (HRM.out w3 v HV.out).mono ?_; rintro e w4 ⟨⟨X, hX1, hX2, rfl⟩, hb4⟩
      have HB4 := Lib.hid (below_then HB3.out hb4)
      have HX := Lib.hid (And.intro hX1 hX2)
      clear hb4 HRM HB3 HV hX1 hX2
      go_wp2_with fail
      refine (HS.out w4 X HX.out.1 HX.out.2).mono ?_; rintro e w5 ⟨rfl, hd⟩
      have HB5 := Lib.hid (below_then HB4.out hd.below)
      clear hd HS HB4 HX
      go_wp2_with fail
      go_loopw [7] (fun i wx => ∃ j : Nat, j ≤ k ∧ i = .int .i64 j ∧ Hid (∀ m, m < j → kindI (xs.getD m 0) = 1 ∧ xs.getD m 0 = xs.getD 0 0) ∧ Hid (Below wo.heap.size wo wx)) (fun i _ => k - (intOf i).toNat)
      case atStart => exact ⟨0, Nat.zero_le _, rfl, Lib.hid (fun m hm => absurd hm (by omega)), HB5⟩
      case round =>
        obtain ⟨j, hj, rfl, hall, hbx⟩ := hrel
        have HAx := Lib.hid (fun w1 (h : Below wr.heap.size wr w1) => HA.out w1 (below_then (below_then HB.out hbx.out) h))
        have HBx := Lib.hid (below_then HB.out hbx.out)
        by_cases hlt2 : j < k
        · obtain ⟨b, off, hp, hbl, hcj⟩ := HCell.out j hlt2
          obtain ⟨b', off', hp', -, hc0⟩ := HCell.out 0 (by omega)
          rw [hp] at hp'
          simp only [Option.some.injEq, Addr.mk.injEq, and_true] at hp'
          obtain ⟨rfl, rfl⟩ := hp'
          rw [Nat.add_zero] at hc0
          have hcj := (HBx.out.cell (p := ⟨b, off + j, none⟩) hbl).trans hcj
          have hc0 := (HBx.out.cell (p := ⟨b, off, none⟩) hbl).trans hc0
          have hx := list_w64 HXs.out j
          have hy := list_w64 HXs.out 0
          have HK := Lib.hid (fun w1 => rkind_any (xs.getD j 0) w1 hx)
          have hk0 : kindI (xs.getD j 0) = 1 → kindI (xs.getD 0 0) = 1 := fun h => by
            by_cases e : j = 0
            · rw [e] at h; exact h
            · exact (hall.out 0 (by omega)).1
          have hne : kindI (xs.getD j 0) = 1 → (FloatKind.f64.format.order (xs.getD j 0) (xs.getD 0 0) != some .eq) = !decide (xs.getD j 0 = xs.getD 0 0) := fun h => bne_of (ord_one hx hy h (hk0 h))
          have hnext : kindI (xs.getD j 0) = 1 → xs.getD j 0 = xs.getD 0 0 → Hid (∀ m, m < j + 1 → kindI (xs.getD m 0) = 1 ∧ xs.getD m 0 = xs.getD 0 0) := fun h1 h2 => Lib.hid (fun m hm => by
            by_cases e : m = j
            · rw [e]; exact ⟨h1, h2⟩
            · exact hall.out m (by omega))
          generalize kindI (xs.getD j 0) = K at *
          generalize hxx : xs.getD j 0 = x at *
          generalize hyy : xs.getD 0 0 = y at *
          subst hp
          have hk00 : (0 : Int) < (k : Int) := by omega
          have hk01 : ¬ k = 0 := by omega
          have hk02 : 0 < k := by omega
          have hbw : Below wr.heap.size wr wr.drew := (Below.refl _ _).drew
          have hkk : wr.drew.cell? ⟨b, off + j, none⟩ = some (.float .f64 x) ∧ wr.drew.cell? ⟨b, off, none⟩ = some (.float .f64 y) := ⟨by simp [hcj], by simp [hc0]⟩
          by_cases hK : K = 1
          · subst hK
            have hne := hne rfl
            by_cases hxy : x = y
            · have hN := hnext rfl hxy
              rw [decide_eq_true hxy] at hne
              clear hall hnext hk0 hx hy hbl hcj hc0 hxy hxx hyy
              go_upto_region 14 with fail
              go_region_held3 (fun w' => w'.cell? ⟨b, off + j, none⟩ = some (.float .f64 x) ∧ w'.cell? ⟨b, off, none⟩ = some (.float .f64 y)) (with_reducible exact hkk)
                ((go_at_call 20; refine (HK.out _).mono ?_; rintro e wn ⟨rfl, hd⟩; have hkk := And.intro (cell_later hd.below hkk.1) (cell_later hd.below hkk.2); have hbw := below_then hbw hd.below; clear hd))
              all_goals
                have HE := Lib.hid (below_then hbx.out hbw)
                clear hkk hbw hne
                go_wp2_with fail
                go_roundw
                case rel => exact ⟨j + 1, by omega, by go_num, hN, HE⟩
                case measure => simp [intOf]; omega
            · rw [decide_eq_false hxy] at hne
              clear hall hnext hk0 hx hy hbl hcj hc0 hxy hxx hyy
              go_upto_region 14 with fail
              go_region_held3 (fun w' => w'.cell? ⟨b, off + j, none⟩ = some (.float .f64 x) ∧ w'.cell? ⟨b, off, none⟩ = some (.float .f64 y)) (with_reducible exact hkk)
                ((go_at_call 20; refine (HK.out _).mono ?_; rintro e wn ⟨rfl, hd⟩; have hkk := And.intro (cell_later hd.below hkk.1) (cell_later hd.below hkk.2); have hbw := below_then hbw hd.below; clear hd))
              all_goals
                have HE := Lib.hid hbw
                clear hkk hbw hne
                go_wp2_with fail
                refine (HAx.out _ HE.out).mono ?_; rintro e wz ⟨rfl, hbz⟩
                have HZ := Lib.hid (below_then (below_then HBx.out HE.out) hbz)
                clear hbz
                go_wp2_with fail
                go_ret
                exact ⟨rfl, HZ.out⟩
          · have hKb : (K != 1) = true := by rw [bne_iff_ne]; exact hK
            have hKc : (K == 1) = false := by rw [beq_eq_false_iff_ne]; exact hK
            clear hall hnext hk0 hx hy hbl hxx hyy hne hkk hbw
            go_upto_region 14 with fail
            go_quiet ((go_at_call 20; exact Calls.quiet_of (HK.out _)))
            have hbw : Below wr.heap.size wr (wr.drewN nq) := below_drewN (Below.refl _ _) nq
            all_goals
              have HE := Lib.hid hbw
              clear hbw
              go_wp2_with fail
              refine (HAx.out _ HE.out).mono ?_; rintro e wz ⟨rfl, hbz⟩
              have HZ := Lib.hid (below_then (below_then HBx.out HE.out) hbz)
              clear hbz
              go_wp2_with fail
              go_ret
              exact ⟨rfl, HZ.out⟩
        · obtain rfl : j = k := by omega
          by_cases hk0 : j = 0
          · subst hk0
            have hbw : Below wr.heap.size wr wr.drew := (Below.refl _ _).drew
            go_upto_region 16 with fail
            refine wp_region_held_drew (S := fun _ => True) (by kernel_rfl) True.intro (fun _ => ?_)
            refine wpAnyH_take (i := 0) (v := .slice p 0 c) rfl (by kernel_rfl) (by kernel_rfl) (by kernel_rfl) (fun _ _ _ h => h) (Or.inl ⟨by kernel_rfl, fun w _ => by first | (go_simp; done) | (go_simp; rfl)⟩) True.intro ?_
            try simp only [Act.put, List.setIfInBounds_toArray, List.set_cons_zero, List.set_cons_succ]
            refine wpAnyH_take (i := 1) (v := .int .i64 0) rfl (by kernel_rfl) (by kernel_rfl) (by kernel_rfl) (fun _ _ _ h => h) (Or.inl ⟨by kernel_rfl, fun w _ => by first | (go_simp; done) | (go_simp; rfl)⟩) True.intro ?_
            try simp only [Act.put, List.setIfInBounds_toArray, List.set_cons_zero, List.set_cons_succ]
            refine wpAnyH_take (i := 2) (v := .bool true) rfl (by kernel_rfl) (by kernel_rfl) (by kernel_rfl) (fun _ _ _ h => h) (Or.inl ⟨by kernel_rfl, fun w _ => by first | (go_simp; done) | (go_simp; rfl)⟩) True.intro ?_
            try simp only [Act.put, List.setIfInBounds_toArray, List.set_cons_zero, List.set_cons_succ]
            refine wpAnyH_take (i := 3) (v := .bool true) rfl (by kernel_rfl) (by kernel_rfl) (by kernel_rfl) (fun _ _ _ h => h) (Or.inl ⟨by kernel_rfl, fun w _ => by first | (go_simp; done) | (go_simp; rfl)⟩) True.intro ?_
            try simp only [Act.put, List.setIfInBounds_toArray, List.set_cons_zero, List.set_cons_succ]
            refine wpAnyH_take (i := 4) (v := undef) rfl (by kernel_rfl) (by kernel_rfl) (by kernel_rfl) (fun _ _ _ h => h) (Or.inr ⟨by kernel_rfl, rfl⟩) True.intro ?_
            try simp only [Act.put, List.setIfInBounds_toArray, List.set_cons_zero, List.set_cons_succ]
            refine wpAnyH_take (i := 5) (v := undef) rfl (by kernel_rfl) (by kernel_rfl) (by kernel_rfl) (fun _ _ _ h => h) (Or.inr ⟨by kernel_rfl, rfl⟩) True.intro ?_
            try simp only [Act.put, List.setIfInBounds_toArray, List.set_cons_zero, List.set_cons_succ]
            refine wpAnyH_take (i := 6) (v := undef) rfl (by kernel_rfl) (by kernel_rfl) (by kernel_rfl) (fun _ _ _ h => h) (Or.inr ⟨by kernel_rfl, rfl⟩) True.intro ?_
            try simp only [Act.put, List.setIfInBounds_toArray, List.set_cons_zero, List.set_cons_succ]
            refine wpAnyH_take (i := 7) (v := undef) rfl (by kernel_rfl) (by kernel_rfl) (by kernel_rfl) (fun _ _ _ h => h) (Or.inr ⟨by kernel_rfl, rfl⟩) True.intro ?_
            try simp only [Act.put, List.setIfInBounds_toArray, List.set_cons_zero, List.set_cons_succ]
            refine wpAnyH_take (i := 8) (v := undef) rfl (by kernel_rfl) (by kernel_rfl) (by kernel_rfl) (fun _ _ _ h => h) (Or.inr ⟨by kernel_rfl, rfl⟩) True.intro ?_
            try simp only [Act.put, List.setIfInBounds_toArray, List.set_cons_zero, List.set_cons_succ]
            refine wpAnyH_take (i := 9) (v := undef) rfl (by kernel_rfl) (by kernel_rfl) (by kernel_rfl) (fun _ _ _ h => h) (Or.inr ⟨by kernel_rfl, rfl⟩) True.intro ?_
            try simp only [Act.put, List.setIfInBounds_toArray, List.set_cons_zero, List.set_cons_succ]
            refine wpAnyH_take (i := 10) (v := undef) rfl (by kernel_rfl) (by kernel_rfl) (by kernel_rfl) (fun _ _ _ h => h) (Or.inr ⟨by kernel_rfl, rfl⟩) True.intro ?_
            try simp only [Act.put, List.setIfInBounds_toArray, List.set_cons_zero, List.set_cons_succ]
            refine wpAnyH_take (i := 11) (v := undef) rfl (by kernel_rfl) (by kernel_rfl) (by kernel_rfl) (fun _ _ _ h => h) (Or.inr ⟨by kernel_rfl, rfl⟩) True.intro ?_
            try simp only [Act.put, List.setIfInBounds_toArray, List.set_cons_zero, List.set_cons_succ]
            refine wpAnyH_take (i := 12) (v := .bool true) rfl (by kernel_rfl) (by kernel_rfl) (by kernel_rfl) (fun _ _ _ h => h) (Or.inl ⟨by kernel_rfl, fun w _ => by first | (go_simp; done) | (go_simp; rfl)⟩) True.intro ?_
            try simp only [Act.put, List.setIfInBounds_toArray, List.set_cons_zero, List.set_cons_succ]
            refine wpAnyH_take (i := 13) (v := .bool true) rfl (by kernel_rfl) (by kernel_rfl) (by kernel_rfl) (fun _ _ _ h => h) (Or.inl ⟨by kernel_rfl, fun w _ => by first | (go_simp; done) | (go_simp; rfl)⟩) True.intro ?_
            try simp only [Act.put, List.setIfInBounds_toArray, List.set_cons_zero, List.set_cons_succ]
            refine wpAnyH_ready (rs := [14]) (by kernel_rfl) (by simp) (AllReadyH.cons rfl (fun K' hK => ?_) AllReadyH.nil)
            rw [if_pos (by kernel_rfl)]
            go_simp
            refine (HAx.out _ hbw).mono ?_; rintro e wz ⟨rfl, hbz⟩
            have HZ := Lib.hid (below_then (below_then HBx.out hbw) hbz)
            refine hK.out _ _ True.intro (fun _ => ?_)
            try simp only [Act.put, List.setIfInBounds_toArray, List.set_cons_zero, List.set_cons_succ]
            refine wpAnyH_take (i := 15) (oi := { dst := some 81, op := _, type := _, pos := _, after := _, guard := _ }) (v := .bool true) rfl (by kernel_rfl) (by kernel_rfl) (by kernel_rfl) (fun _ _ _ h => h) (Or.inl ⟨by kernel_rfl, fun w _ => by first | (go_simp; done) | (go_simp; rfl)⟩) True.intro ?_
            try simp only [Act.put, List.setIfInBounds_toArray, List.set_cons_zero, List.set_cons_succ]
            refine wpAnyH_take (i := 16) (oi := { dst := some 4, op := _, type := _, pos := _, after := _, guard := _ }) (v := .bool true) rfl (by kernel_rfl) (by kernel_rfl) (by kernel_rfl) (fun _ _ _ h => h) (Or.inl ⟨by kernel_rfl, fun w _ => by first | (go_simp; done) | (go_simp; rfl)⟩) True.intro ?_
            try simp only [Act.put, List.setIfInBounds_toArray, List.set_cons_zero, List.set_cons_succ]
            refine wpAnyH_done (by kernel_rfl) ?_ _
            all_goals
              go_wp2_with fail
              go_ret
              exact ⟨rfl, HZ.out⟩
          · obtain ⟨b, off, hp, hbl, hc0⟩ := HCell.out 0 (by omega)
            rw [Nat.add_zero] at hc0
            have hc0 := (HBx.out.cell (p := ⟨b, off, none⟩) hbl).trans hc0
            have hy := list_w64 HXs.out 0
            have hky := (hall.out 0 (by omega)).1
            have hsame := all_same (xs := xs) (fun m hm => (hall.out m (by rw [HL.out] at hm; exact hm)).2)
            have hme := mean_equal (n := xs.length) hy hky (by rw [HL.out]; omega)
            rw [← hsame, HL.out] at hme
            have HM2 := Lib.hid (fun w1 (h : Below wr.heap.size wr w1) => HM.out w1 (below_then hbx.out h) j (by omega))
            rw [hme] at HM2
            have HS2 := Lib.hid (fun w1 => show Calls Tryd.prog 14 #[.float .f64 (xs.getD 0 0), .float .f64 (xs.getD 0 0)] w1 (fun e w' => e = .returned (.bool true) ∧ Drawn w1 w') by have h := rsame_any (xs.getD 0 0) (xs.getD 0 0) w1 hy hy; rw [same_self] at h; exact h)
            generalize xs.getD 0 0 = y at *
            have hj00 : (0 : Int) < (j : Int) := by omega
            have hj02 : 0 < j := by omega
            have hj0 : ((j : Int) == 0) = false := by rw [beq_eq_false_iff_ne]; omega
            subst hp
            have hbw : Below wr.heap.size wr wr.drew := (Below.refl _ _).drew
            have hkk : wr.drew.cell? ⟨b, off, none⟩ = some (.float .f64 y) := by simp [hc0]
            clear hall hbl hc0 hy hky hsame hme HM
            go_upto_region 16 with fail
            go_region_held3 (fun w' => w'.cell? ⟨b, off, none⟩ = some (.float .f64 y)) (with_reducible exact hkk)
              (first
                | (go_at_call 17; refine (HM2.out _ hbw).mono ?_; rintro e wn ⟨rfl, hbn⟩; have hkk := cell_later hbn hkk; have hbw := below_then hbw hbn; clear hbn)
                | (go_at_call 14; refine (HS2.out _).mono ?_; rintro e wn ⟨rfl, hd⟩; have hkk := cell_later hd.below hkk; have hbw := below_then hbw hd.below; clear hd)
                | (go_at_call 9; refine (HAx.out _ hbw).mono ?_; rintro e wn ⟨rfl, hbn⟩; have hkk := cell_later hbn hkk; have hbw := below_then hbw hbn; clear hbn))
            all_goals
              have HE := Lib.hid (below_then HBx.out hbw)
              clear hkk hbw
              go_wp2_with fail
              go_ret
              exact ⟨rfl, HE.out⟩
theorem walk (p : Option Addr) (n c : Nat) (xs : List Nat) (d : Int) (w : World) (g : Flts w (.slice p n c) xs) (hm : n ≤ 9223372036854775807) (wc : (Lit.int .i64 d).wf = true) (hT : Tab w) (hT2 : Tab64 w) :
    Calls Tryd.prog 4 #[.slice p n c, .int .i64 d] w fun r w' => r = .returned (.bool true) ∧ Below w.heap.size w w' := by
  have hc : -9223372036854775808 ≤ d ∧ d ≤ 9223372036854775807 := by simpa [Lit.wf, IntKind.min, IntKind.max, IntKind.signed, IntKind.bits] using wc
  by_cases hn : n ≤ 40
  · exact walk_short p n c xs d w g hn hc.1 hc.2 hT hT2
  · have HA := Lib.hid (awake5_any w hT hT2)
    have b1 : (40 : Int) < (n : Int) := by omega
    clear g hT hT2 hn hc wc
    go_enter Tryd.func4, Tryd.ntmps4
    go_wp2_with fail
    refine (HA.out).mono ?_; rintro r w1 ⟨rfl, hb⟩
    go_wp2_with fail
    go_ret
    exact ⟨rfl, hb⟩
set_option maxRecDepth 100000 in
theorem lifted (os : Os) (started : os.Started) (H : Type) (enc : TypeId × Value → H) :
    ReturnsInHanded {} Tryd.checked os 4 .any (fun w args => (Rows.exactMeansSpec.pre enc Tryd.prog Tryd.f4 [] false w args ∧ laidMetH Tryd.prog laid3 w) ∧ sizedMet enc Tryd.prog Tryd.f4 (OpenSpec.ofChange Rows.exactMeansSpec) false w args)
      (Rows.exactMeansSpec.post enc Tryd.prog Tryd.f4 false true false false) := by
  refine returnsInHanded_of_change_and (C := Tryd.checked) (X := fun w _ => laidMetH Tryd.prog laid3 w) (fun _ _ _ hh h => h.of_heap hh) own2 started (by kernel_rfl) Tryd.func4
    (ChangeSpec.witness_shaped (enc := enc) (C := Tryd.checked) (os := os) (X := fun w _ => laidMetH Tryd.prog laid3 w) false (World.doorLaid Tryd.prog 800 os) #[.slice none 0 0, .int .i64 0] 8 rfl (World.shaped_of_RefB (by kernel_rfl) (by kernel_rfl)) (by kernel_rfl) (by kernel_rfl) (by kernel_rfl) (door_met3 os _)) ?_
  intro W base args ds gs before hval0 hW _ _ hL _
  have hTab := tab_of3 hL
  have hTab64 := tab64_of3 hL
  have hval : ∀ (j : Nat) t v, Tryd.f4.params[j]? = some t → args[j]? = some v → Value.okWide Tryd.prog W .any base t v := hval0
  have hW' := hW
  obtain ⟨p, q, hA0, hV, rfl, hfz, hnd⟩ := hW
  have hA : DataW.TrodAll enc Tryd.prog W 0 (fun _ => true) true Tryd.f4.params.toList args.toList ds p := hA0
  rw [Tryd.params4] at hA hval
  obtain ⟨v0, vs0, d0, ds0, p0, q0, hargs, rfl, rfl, h0, r0⟩ := trodAll_cons hA
  obtain ⟨v1, vs1, d1, ds1, p1, q1, rfl, rfl, rfl, h1, r1⟩ := trodAll_cons r0
  obtain ⟨rfl, rfl, rfl⟩ := trodAll_nil r1
  obtain rfl : args = #[v0, v1] := by cases args; simp_all
  obtain ⟨rfl, rfl⟩ := trodVars_none hV
  obtain ⟨a0, len0, cap0, rfl⟩ := okWide_slice Tryd.underlying22 (hval 0 22 v0 rfl rfl)
  have k0 := h0
  have lt0 : ∀ x ∈ p0, x.block < W.heap.size := by obtain ⟨m, hm⟩ := k0; exact DataW.trod_lt m _ _ _ hm
  obtain ⟨z0, w0, m0⟩ : ∃ xs, Flts W (.slice a0 len0 cap0) xs ∧ len0 ≤ 9223372036854775807 := by
    obtain ⟨fuel, hf⟩ := h0
    obtain ⟨x, l, c, xs, hcs, hF, hm⟩ := open_flts Tryd.underlying22 Tryd.underlying33 (by kernel_rfl) hf
    simp [Value.cells] at hcs
    obtain ⟨rfl, rfl, rfl⟩ := hcs
    exact ⟨xs, hF, hm⟩
  obtain ⟨a1, rfl, rfl, rfl, w1⟩ := open_int Tryd.underlying2 (hval 1 2 v1 rfl rfl) h1
  clear hA0 hval0
  refine (walk a0 len0 cap0 z0 a1 W w0 m0 w1 hTab hTab64).mono fun e W' ⟨he, bel⟩ => ?_
  subst he
  exact ⟨_, rfl, _, _, _, [], _, [], hW', trodAll_mk1 (shut_bool Tryd.underlying4 _), (trodAll_cons_mk (Below.trod laidOut2 (by kernel_rfl) (of_decide_eq_true (by kernel_rfl)) k0 bel lt0) (trodAll_cons_mk (shut_int Tryd.underlying2 w1) trodAll_mk0)), rfl, bel.frame _, fun h => by cases h⟩

theorem over : Rows.exactMeansRow.holds Tryd.pinned (OpenSpec.ofChange Rows.exactMeansSpec) :=
  OpenClaim.holds_of_wide 4 Tryd.f4 rfl rfl rfl rfl rfl rfl rfl ⟨rfl, rfl, rfl, rfl, rfl⟩ rfl rfl rfl rfl rfl (by kernel_rfl) Tryd.func4 (by kernel_rfl)
    (of_decide_eq_true (by kernel_rfl)) (by unfold Func.isWrapper; first | (rw [if_pos (by decide +kernel)]; kernel_rfl) | (rw [if_neg (by decide +kernel)]; exact ⟨rfl, rfl⟩))
    (fun os started H enc _ => lifted os started H enc)
theorem row_holds : Rows.ExactMeansSaid := over
end Go.Proofs.YtboinjkeaffboaaDoor.exactMeans
namespace Go.Proofs.YtboinjkeaffboaaDoor
/-- The statement: the tied card. -/
theorem exactMeans_holds : Rows.ExactMeansCardSaid :=
  Claim7.holds_tied_plain_at .later [] [.data, .data] true _ false
    exactMeans.row_holds (fun _ h => by cases h) (by kernel_rfl) (fun _ h => by cases h) exactMeans_row_tie rfl ⟨rfl, rfl⟩ (by kernel_rfl) rfl
    (fun f fn hf hfn => by
      obtain rfl : f = 4 := Option.some.inj ((show Tryd.prog.funcNamed "bushel/bushellaw05.ExactMeans" = some 4 by kernel_rfl).symm.trans hf) |>.symm
      obtain rfl : fn = Tryd.f4 := (Option.some.inj (Tryd.func4.symm.trans hfn)).symm
      exact ⟨by kernel_rfl, fun j t ht => by
        rw [Tryd.params4] at ht
        have hm : t ∈ [22, 2] := by simpa using Array.mem_of_getElem? ht
        have hall : ([22, 2].all fun u => !Tryd.prog.wantsStandIn u) = true := by kernel_rfl
        exact (show Tryd.prog.wantsStandIn t = false by simpa using List.all_eq_true.1 hall t hm)⟩)
    (by kernel_rfl)
#print axioms exactMeans_holds
end Go.Proofs.YtboinjkeaffboaaDoor
