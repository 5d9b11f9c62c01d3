/- CodePuts: for any thing and any slice of bytes the statement's function returns true and changes nothing that was there. No condition. -/
import Derived.Test.YtggleiemegeaaaaRows
import Derived.Test.YtggleiemegeaaaaCodep
import Derived.WalkKit
import Derived.ProofKit
import Derived.OpenShut
import Derived.Below
import Derived.Deep.RegionHeld3
namespace Go.Proofs.Ytggleiemegeaaaa.codePuts
set_option maxRecDepth 100000
open Go.ChangeShapes Go.WideShapes Go.ChangeAt Go.RowKit Go.Joins
set_option linter.unusedVariables false
theorem own : ownKnob Try.prog.godebug = none := by kernel_rfl
theorem laidOut : laidOutB Try.prog = true := by kernel_rfl
theorem four_of {w W : World} {x n : Int} {f : Nat} {s : ByteArray} (h : Below (w.heap.size + 1) (w.alloc (.cells #[.int .u64 x, .int .i64 n, .float .f64 f, .string s] 25)) W) :
    W.cell? ⟨w.heap.size, 0, none⟩ = some (.int .u64 x) ∧ W.cell? ⟨w.heap.size, 1, none⟩ = some (.int .i64 n) ∧ W.cell? ⟨w.heap.size, 2, none⟩ = some (.float .f64 f) ∧ W.cell? ⟨w.heap.size, 3, none⟩ = some (.string s) := by
  have hn := heap_alloc_new w (.cells #[.int .u64 x, .int .i64 n, .float .f64 f, .string s] 25)
  refine ⟨?_, ?_, ?_, ?_⟩
  · rw [h.cell (p := ⟨w.heap.size, 0, none⟩) (by simp), cell_of_row _ _ 0 _ _ _ hn]; rfl
  · rw [h.cell (p := ⟨w.heap.size, 1, none⟩) (by simp), cell_of_row _ _ 1 _ _ _ hn]; rfl
  · rw [h.cell (p := ⟨w.heap.size, 2, none⟩) (by simp), cell_of_row _ _ 2 _ _ _ hn]; rfl
  · rw [h.cell (p := ⟨w.heap.size, 3, none⟩) (by simp), cell_of_row _ _ 3 _ _ _ hn]; rfl
theorem eight_and {a b c d e f g h : Prop} (p : a ∧ b ∧ c ∧ d) (q1 : e) (q2 : f) (q3 : g) (q4 : h) : a ∧ b ∧ c ∧ d ∧ e ∧ f ∧ g ∧ h := ⟨p.1, p.2.1, p.2.2.1, p.2.2.2, q1, q2, q3, q4⟩
theorem size_of {w W : World} {o : Obj} (h : Below (w.heap.size + 1) (w.alloc o) W) : w.heap.size + 1 ≤ W.heap.size := by
  have := h.size; simpa using this
theorem below_of {w W : World} {o : Obj} (h : Below (w.heap.size + 1) (w.alloc o) W) : Below w.heap.size w W := (below_one w o).trans (h.mono (by omega))
theorem other_block {g g' l c : Nat} (h : g ≠ g') : (Value.slice (some ⟨g, 0, none⟩) l c).ownBlock ≠ some g' := by
  simp [Value.ownBlock]; exact h
theorem own_below {w w' : World} {B E : Nat} {v : Value} {n : Nat} {xs : List Value} (h : w.ownsRow B E 1 v n xs) (hb : Below w.heap.size w w') : w'.ownsRow B E 1 v n xs := by
  obtain ⟨hl, h⟩ := h
  refine ⟨hl, ?_⟩
  rcases h with h | ⟨g, cap, cur, h1, h2, h3, h4⟩
  · exact .inl h
  · exact .inr ⟨g, cap, cur, h1, h2, by rw [hb.block g (Array.getElem?_eq_some_iff.1 h3).1]; exact h3, h4⟩
theorem strB_ofS (s : ByteArray) : strB (ofS s) = s := by
  apply ByteArray.ext
  have e : ((fun x : Int => UInt8.ofNat x.toNat) ∘ fun c : UInt8 => (c.toNat : Int)) = id := by funext c; simp
  simp [strB, ofS, e]
set_option maxHeartbeats 32000000 in
theorem walk (x0 n0 : Int) (f0 : Nat) (s0 : ByteArray) (a1 : Option Addr) (len1 cap1 : Nat) (z : List Int) (w : World)
    (wx0 : (Lit.int .u64 x0).wf = true) (wn0 : (Lit.int .i64 n0).wf = true) (wf0 : (Lit.float .f64 f0).wf = true) (ws0 : s0.size ≤ maxLen) (wz : Given .u8 w (.slice a1 len1 cap1) z) :
    Calls Try.prog 3 #[.agg #[.int .u64 x0, .int .i64 n0, .float .f64 f0, .string s0], .slice a1 len1 cap1] w fun e w' => e = .returned (.bool true) ∧ Below w.heap.size w w' := by
  have HA := Lib.hid (fun w => awake7_any w)
  obtain ⟨X, rfl, hx0⟩ := u64_of wx0
  have hn0 := i64_of wn0
  have hf0 := w64_of wf0
  have lz := len_max wz
  have HBx := Lib.hid (fun o => below_one w o)
  clear wx0 wn0 wf0
  by_cases h0 : 300 < s0.size
  · have z0 : (300 : Int) < (s0.size : Int) := by omega
    go_enter Try.func3, Try.ntmps3
    go_wp2_with fail
    refine (HA.out _).mono ?_; rintro e w1 ⟨rfl, hb⟩
    have HB := Lib.hid ((HBx.out _).trans (hb.mono (HBx.out _).size))
    clear hb
    go_wp2_with fail
    go_ret
    exact ⟨rfl, HB.out⟩
  · have z0 : ¬ (300 : Int) < (s0.size : Int) := by omega
    by_cases h1 : 300 < len1
    · have i1 : (300 : Int) < (len1 : Int) := by omega
      go_enter Try.func3, Try.ntmps3
      go_wp2_with fail
      refine (HA.out _).mono ?_; rintro e w1 ⟨rfl, hb⟩
      have HB := Lib.hid ((HBx.out _).trans (hb.mono (HBx.out _).size))
      clear hb
      go_wp2_with fail
      go_ret
      exact ⟨rfl, HB.out⟩
    · have i1 : ¬ (300 : Int) < (len1 : Int) := by omega
      obtain ⟨i0, hi, hz0, hz1, hz2⟩ := info_parts Try.infoU8
      obtain ⟨k0, e0⟩ := Int.eq_ofNat_of_zero_le (key_range hf0).1
      have g0 := (key_range hf0).2
      have HP1 := Lib.hid (fun w => pU_any X w hx0)
      have HP2 := Lib.hid (fun w => pI_any n0 w hn0.1 hn0.2)
      have HP3 := Lib.hid (fun w => pF_any f0 k0 w hf0 e0)
      have HP4 := Lib.hid (fun w => pT_any s0 w (by omega))
      have HR1 := Lib.hid (fun w => rU_any X w hx0)
      have HR2 := Lib.hid (fun w => rI_any n0 w hn0.1 hn0.2)
      have HR3 := Lib.hid (fun w => rF_any f0 k0 w hf0 e0)
      have HR4 := Lib.hid (fun w => rT_any s0 w (by omega))
      have lu := encU_len hx0
      have li := encI_len hn0.1 hn0.2
      have lf : (encF k0).length = 8 := bigN_len _ _
      have lt : (encT (ofS s0)).length = (encP (ofS s0)).length + 2 := by simp [encT]
      have lt2 := encP_len (ofS s0)
      rw [ofS_len] at lt2
      have HL1 := Lib.hid (show 0 < (encU X).length by omega)
      have HL2 := Lib.hid (show 0 < (encI n0).length by omega)
      have HL3 := Lib.hid (show 0 < (encF k0).length by omega)
      have HL4 := Lib.hid (show 0 < (encT (ofS s0)).length by omega)
      have HM1 := Lib.hid (show (encU X).length ≤ 1000 by omega)
      have HM2 := Lib.hid (show (encI n0).length ≤ 1000 by omega)
      have HM3 := Lib.hid (show (encF k0).length ≤ 1000 by omega)
      have HM4 := Lib.hid (show (encT (ofS s0)).length ≤ 1000 by omega)
      have HMz := Lib.hid (show z.length ≤ 1000 by omega)
      have bu := encU_bt hx0
      have bi := encI_bt hn0.1 hn0.2
      have bf : Bt (encF k0) := bigN_bt _ _
      have bt := encT_bt (ofS_bt s0)
      have HCv1 := Lib.hid (fun W v (h : Ints .u8 W v (encU X)) => conv_ints h bu)
      have HCv2 := Lib.hid (fun W v (h : Ints .u8 W v (encI n0)) => conv_ints h bi)
      have HCv3 := Lib.hid (fun W v (h : Ints .u8 W v (encF k0)) => conv_ints h bf)
      have HCv4 := Lib.hid (fun W v (h : Ints .u8 W v (encT (ofS s0))) => conv_ints h bt)
      have hG1 := fun v W (h : Ints .u8 W v (encU X ++ z)) => pgetU_any v _ W h (bu.append wz.byt) (by rw [List.length_append]; omega)
      have hG2 := fun v W (h : Ints .u8 W v (encI n0 ++ z)) => pgetI_any v _ W h (bi.append wz.byt) (by rw [List.length_append]; omega)
      have hG3 := fun v W (h : Ints .u8 W v (encF k0 ++ z)) => pgetF_any v _ W h (bf.append wz.byt) (by rw [List.length_append]; omega)
      have hG4 := fun v W (h : Ints .u8 W v (encT (ofS s0) ++ z)) => pgetT_any v _ W h (bt.append wz.byt) (by rw [List.length_append]; omega)
      have hkk : Keyed (k0 : Int) := by rw [← e0]; exact keyed_key hf0
      rw [getU_enc hx0] at hG1
      rw [getI_enc hn0.1 hn0.2] at hG2
      rw [getF_enc (by omega) hkk] at hG3
      rw [getT_enc, List.nil_append, Nat.zero_add] at hG4
      unfold trip at hG1
      unfold tripI at hG2
      unfold tripF at hG3
      unfold tripT at hG4
      simp only [strB_ofS, if_true] at hG1 hG2 hG3 hG4
      obtain ⟨kf1, kf2, -, -, -⟩ := keyed_from hkk
      have HSm := Lib.hid (fun w => rsame_any (fromN (k0 : Int)) f0 w kf1 hf0)
      rw [show sameB (fromN (k0 : Int)) f0 = true by unfold sameB; rw [decide_eq_true_iff, kf2, e0]] at HSm
      have HG1 := Lib.hid hG1
      have HG2 := Lib.hid hG2
      have HG3 := Lib.hid hG3
      have HG4 := Lib.hid hG4
      have HZ := Lib.hid (fun W (h : Below w.heap.size w W) => wz.1.below h)
      clear hG1 hG2 hG3 hG4 hkk kf1 kf2 bu bi bf bt lu li lf lt lt2 e0 g0 wz
      generalize fromN (k0 : Int) = fc at *
      generalize encU X = l1 at *
      generalize encI n0 = l2 at *
      generalize encF k0 = l3 at *
      generalize encT (ofS s0) = l4 at *
      generalize strB l1 = S1 at *
      generalize strB l2 = S2 at *
      generalize strB l3 = S3 at *
      generalize strB l4 = S4 at *
      go_enter Try.func3, Try.ntmps3
      go_upto_region 3 with fail
      have hBx : Below (w.heap.size + 1) (w.alloc (.cells #[.int .u64 (X : Int), .int .i64 n0, .float .f64 f0, .string s0] 25)) (w.alloc (.cells #[.int .u64 (X : Int), .int .i64 n0, .float .f64 f0, .string s0] 25)).drew := (Below.refl _ _).drew
      have hk := four_of hBx
      go_region_held3 (fun w' => w'.cell? ⟨w.heap.size, 0, none⟩ = some (.int .u64 (X : Int)) ∧ w'.cell? ⟨w.heap.size, 1, none⟩ = some (.int .i64 n0) ∧ w'.cell? ⟨w.heap.size, 2, none⟩ = some (.float .f64 f0) ∧ w'.cell? ⟨w.heap.size, 3, none⟩ = some (.string s0)) (with_reducible exact hk)
        (first
          | (go_at_call 8; (with_reducible refine (HP1.out _).mono ?_); rintro e u1 ⟨⟨v1, rfl, ho⟩, hb⟩; obtain ⟨g1, c1, rfl, hg, hg1⟩ := own_form ho HL1.out; have HO1 := Lib.hid (own_mono ho (size_of hBx)); have hBx := hBx.trans (hb.mono (size_of hBx)); have hk := four_of hBx; clear ho hb hg)
          | (go_at_call 9; (with_reducible refine (HP2.out _).mono ?_); rintro e u2 ⟨⟨v2, rfl, ho⟩, hb⟩; obtain ⟨g2, c2, rfl, hg, hg2⟩ := own_form ho HL2.out; have HO2 := Lib.hid (own_mono ho (size_of hBx)); have HO1 := Lib.hid (own_below HO1.out hb); have hlt2 := Nat.lt_of_lt_of_le hg1 hg; have hBx := hBx.trans (hb.mono (size_of hBx)); have hk := four_of hBx; clear ho hb hg)
          | (go_at_call 10; (with_reducible refine (HP3.out _).mono ?_); rintro e u3 ⟨⟨v3, rfl, ho⟩, hb⟩; obtain ⟨g3, c3, rfl, hg, hg3⟩ := own_form ho HL3.out; have HO3 := Lib.hid (own_mono ho (size_of hBx)); have HO1 := Lib.hid (own_below HO1.out hb); have HO2 := Lib.hid (own_below HO2.out hb); have hlt3 := Nat.lt_of_lt_of_le hg2 hg; have hBx := hBx.trans (hb.mono (size_of hBx)); have hk := four_of hBx; clear ho hb hg)
          | (go_at_call 11; (with_reducible refine (HP4.out _).mono ?_); rintro e u4 ⟨⟨v4, rfl, ho⟩, hb⟩; obtain ⟨g4, c4, rfl, hg, hg4⟩ := own_form ho HL4.out; have HO4 := Lib.hid (own_mono ho (size_of hBx)); have HO1 := Lib.hid (own_below HO1.out hb); have HO2 := Lib.hid (own_below HO2.out hb); have HO3 := Lib.hid (own_below HO3.out hb); have hlt4 := Nat.lt_of_lt_of_le hg3 hg; have hBx := hBx.trans (hb.mono (size_of hBx)); have hk := four_of hBx; clear ho hb hg))
      clear hk
      have hge1 : w.heap.size + 1 ≤ g1 := own_ge HO1.out g1 rfl
      have hge2 : w.heap.size + 1 ≤ g2 := by omega
      have hge3 : w.heap.size + 1 ≤ g3 := by omega
      have hge4 : w.heap.size + 1 ≤ g4 := by omega
      have HQ := Lib.hid (And.intro hlt2 (And.intro hlt3 hlt4))
      go_upto_region 4 with fail
      have hk := eight_and (four_of hBx.drew) (HCv1.out _ _ (Ints.own HO1.out.drew)) (HCv2.out _ _ (Ints.own HO2.out.drew)) (HCv3.out _ _ (Ints.own HO3.out.drew)) (HCv4.out _ _ (Ints.own HO4.out.drew))
      have hBx := hBx.drew
      have HO1 := Lib.hid HO1.out.drew
      have HO2 := Lib.hid HO2.out.drew
      have HO3 := Lib.hid HO3.out.drew
      have HO4 := Lib.hid HO4.out.drew
      refine wp_region_held_drew (S := fun w' => w'.cell? ⟨w.heap.size, 0, none⟩ = some (.int .u64 (X : Int)) ∧ w'.cell? ⟨w.heap.size, 1, none⟩ = some (.int .i64 n0) ∧ w'.cell? ⟨w.heap.size, 2, none⟩ = some (.float .f64 f0) ∧ w'.cell? ⟨w.heap.size, 3, none⟩ = some (.string s0) ∧ (convert 26 9 (.slice (some ⟨g1, 0, none⟩) l1.length c1)).run Try.prog w' = .ok (.string S1) w' ∧ (convert 26 9 (.slice (some ⟨g2, 0, none⟩) l2.length c2)).run Try.prog w' = .ok (.string S2) w' ∧ (convert 26 9 (.slice (some ⟨g3, 0, none⟩) l3.length c3)).run Try.prog w' = .ok (.string S3) w' ∧ (convert 26 9 (.slice (some ⟨g4, 0, none⟩) l4.length c4)).run Try.prog w' = .ok (.string S4) w') (by kernel_rfl) hk (fun _ => ?_)
      refine wpAnyH_take (i := 0) (oi := { dst := some 43, op := _, type := _, pos := _, after := _, guard := _ }) (v := .slice (some ⟨g1, 0, none⟩) l1.length c1) rfl (by kernel_rfl) (by kernel_rfl) (by kernel_rfl) (fun _ _ _ h => h) (Or.inl ⟨by kernel_rfl, fun w hSw => by (try dsimp only at hSw); first | (go_simp; done) | (go_simp; rfl)⟩) hk ?_
      try simp only [Act.put, List.setIfInBounds_toArray, List.set_cons_zero, List.set_cons_succ]
      refine wpAnyH_take (i := 1) (oi := { dst := some 44, op := _, type := _, pos := _, after := _, guard := _ }) (v := .string S1) rfl (by kernel_rfl) (by kernel_rfl) (by kernel_rfl) (fun _ _ _ h => h) (Or.inl ⟨by kernel_rfl, fun w hSw => by (try dsimp only at hSw); first | (go_simp; done) | (go_simp; rfl)⟩) hk ?_
      try simp only [Act.put, List.setIfInBounds_toArray, List.set_cons_zero, List.set_cons_succ]
      refine wpAnyH_take (i := 2) (oi := { dst := some 45, op := _, type := _, pos := _, after := _, guard := _ }) (v := .pointer (some ⟨w.heap.size, 0, none⟩)) rfl (by kernel_rfl) (by kernel_rfl) (by kernel_rfl) (fun _ _ _ h => h) (Or.inl ⟨by kernel_rfl, fun w hSw => by (try dsimp only at hSw); first | (go_simp; done) | (go_simp; rfl)⟩) hk ?_
      try simp only [Act.put, List.setIfInBounds_toArray, List.set_cons_zero, List.set_cons_succ]
      refine wpAnyH_take (i := 3) (oi := { dst := some 46, op := _, type := _, pos := _, after := _, guard := _ }) (v := .int .u64 (X : Int)) rfl (by kernel_rfl) (by kernel_rfl) (by kernel_rfl) (fun _ _ _ h => h) (Or.inl ⟨by kernel_rfl, fun w hSw => by (try dsimp only at hSw); first | (go_simp; done) | (go_simp; rfl)⟩) hk ?_
      try simp only [Act.put, List.setIfInBounds_toArray, List.set_cons_zero, List.set_cons_succ]
      refine wpAnyH_ready (rs := [4]) (by kernel_rfl) (by simp) (AllReadyH.cons rfl (fun K' hK => ?_) AllReadyH.nil)
      rw [if_pos (by kernel_rfl)]
      go_simp
      (with_reducible refine (HR1.out _).mono ?_)
      rintro e r1 ⟨⟨q1, rfl, ho⟩, hb⟩
      have hcv1 := HCv1.out _ _ (Ints.own ho)
      obtain ⟨pp1, pl1, pc1, rfl⟩ := own_slice3 ho
      have HO1 := Lib.hid (own_below HO1.out hb)
      have HO2 := Lib.hid (own_below HO2.out hb)
      have HO3 := Lib.hid (own_below HO3.out hb)
      have HO4 := Lib.hid (own_below HO4.out hb)
      have hBx := hBx.trans (hb.mono (size_of hBx))
      have hk := eight_and (four_of hBx) (HCv1.out _ _ (Ints.own HO1.out)) (HCv2.out _ _ (Ints.own HO2.out)) (HCv3.out _ _ (Ints.own HO3.out)) (HCv4.out _ _ (Ints.own HO4.out))
      clear ho hb
      refine hK.out _ _ hk (fun _ => ?_)
      try simp only [Act.put, List.setIfInBounds_toArray, List.set_cons_zero, List.set_cons_succ]
      refine wpAnyH_ready (rs := [5]) (by kernel_rfl) (by simp) (AllReadyH.cons rfl (fun K' hK => ?_) AllReadyH.nil)
      rw [if_pos (by kernel_rfl)]
      go_simp
      clear hcv1
      refine hK.out _ _ hk (fun _ => ?_)
      try simp only [Act.put, List.setIfInBounds_toArray, List.set_cons_zero, List.set_cons_succ]
      refine wpAnyH_take (i := 6) (oi := { dst := some 49, op := _, type := _, pos := _, after := _, guard := _ }) (v := .bool false) rfl (by kernel_rfl) (by kernel_rfl) (by kernel_rfl) (fun _ _ _ h => h) (Or.inl ⟨by kernel_rfl, fun w hSw => by (try dsimp only at hSw); first | (go_simp; done) | (go_simp; rfl)⟩) hk ?_
      try simp only [Act.put, List.setIfInBounds_toArray, List.set_cons_zero, List.set_cons_succ]
      refine wpAnyH_take (i := 7) (oi := { dst := some 50, op := _, type := _, pos := _, after := _, guard := _ }) (v := .bool false) rfl (by kernel_rfl) (by kernel_rfl) (by kernel_rfl) (fun _ _ _ h => h) (Or.inl ⟨by kernel_rfl, fun w hSw => by (try dsimp only at hSw); first | (go_simp; done) | (go_simp; rfl)⟩) hk ?_
      try simp only [Act.put, List.setIfInBounds_toArray, List.set_cons_zero, List.set_cons_succ]
      refine wpAnyH_take (i := 8) (oi := { dst := some 51, op := _, type := _, pos := _, after := _, guard := _ }) (v := .slice (some ⟨g2, 0, none⟩) l2.length c2) rfl (by kernel_rfl) (by kernel_rfl) (by kernel_rfl) (fun _ _ _ h => h) (Or.inl ⟨by kernel_rfl, fun w hSw => by (try dsimp only at hSw); first | (go_simp; done) | (go_simp; rfl)⟩) hk ?_
      try simp only [Act.put, List.setIfInBounds_toArray, List.set_cons_zero, List.set_cons_succ]
      refine wpAnyH_take (i := 9) (oi := { dst := some 52, op := _, type := _, pos := _, after := _, guard := _ }) (v := .string S2) rfl (by kernel_rfl) (by kernel_rfl) (by kernel_rfl) (fun _ _ _ h => h) (Or.inl ⟨by kernel_rfl, fun w hSw => by (try dsimp only at hSw); first | (go_simp; done) | (go_simp; rfl)⟩) hk ?_
      try simp only [Act.put, List.setIfInBounds_toArray, List.set_cons_zero, List.set_cons_succ]
      refine wpAnyH_take (i := 10) (oi := { dst := some 53, op := _, type := _, pos := _, after := _, guard := _ }) (v := .pointer (some ⟨w.heap.size, 1, none⟩)) rfl (by kernel_rfl) (by kernel_rfl) (by kernel_rfl) (fun _ _ _ h => h) (Or.inl ⟨by kernel_rfl, fun w hSw => by (try dsimp only at hSw); first | (go_simp; done) | (go_simp; rfl)⟩) hk ?_
      try simp only [Act.put, List.setIfInBounds_toArray, List.set_cons_zero, List.set_cons_succ]
      refine wpAnyH_take (i := 11) (oi := { dst := some 54, op := _, type := _, pos := _, after := _, guard := _ }) (v := .int .i64 n0) rfl (by kernel_rfl) (by kernel_rfl) (by kernel_rfl) (fun _ _ _ h => h) (Or.inl ⟨by kernel_rfl, fun w hSw => by (try dsimp only at hSw); first | (go_simp; done) | (go_simp; rfl)⟩) hk ?_
      try simp only [Act.put, List.setIfInBounds_toArray, List.set_cons_zero, List.set_cons_succ]
      refine wpAnyH_ready (rs := [12]) (by kernel_rfl) (by simp) (AllReadyH.cons rfl (fun K' hK => ?_) AllReadyH.nil)
      rw [if_pos (by kernel_rfl)]
      go_simp
      (with_reducible refine (HR2.out _).mono ?_)
      rintro e r2 ⟨⟨q2, rfl, ho⟩, hb⟩
      have hcv2 := HCv2.out _ _ (Ints.own ho)
      obtain ⟨pp2, pl2, pc2, rfl⟩ := own_slice3 ho
      have HO1 := Lib.hid (own_below HO1.out hb)
      have HO2 := Lib.hid (own_below HO2.out hb)
      have HO3 := Lib.hid (own_below HO3.out hb)
      have HO4 := Lib.hid (own_below HO4.out hb)
      have hBx := hBx.trans (hb.mono (size_of hBx))
      have hk := eight_and (four_of hBx) (HCv1.out _ _ (Ints.own HO1.out)) (HCv2.out _ _ (Ints.own HO2.out)) (HCv3.out _ _ (Ints.own HO3.out)) (HCv4.out _ _ (Ints.own HO4.out))
      clear ho hb
      refine hK.out _ _ hk (fun _ => ?_)
      try simp only [Act.put, List.setIfInBounds_toArray, List.set_cons_zero, List.set_cons_succ]
      refine wpAnyH_ready (rs := [13]) (by kernel_rfl) (by simp) (AllReadyH.cons rfl (fun K' hK => ?_) AllReadyH.nil)
      rw [if_pos (by kernel_rfl)]
      go_simp
      clear hcv2
      refine hK.out _ _ hk (fun _ => ?_)
      try simp only [Act.put, List.setIfInBounds_toArray, List.set_cons_zero, List.set_cons_succ]
      refine wpAnyH_take (i := 14) (oi := { dst := some 57, op := _, type := _, pos := _, after := _, guard := _ }) (v := .bool false) rfl (by kernel_rfl) (by kernel_rfl) (by kernel_rfl) (fun _ _ _ h => h) (Or.inl ⟨by kernel_rfl, fun w hSw => by (try dsimp only at hSw); first | (go_simp; done) | (go_simp; rfl)⟩) hk ?_
      try simp only [Act.put, List.setIfInBounds_toArray, List.set_cons_zero, List.set_cons_succ]
      refine wpAnyH_take (i := 15) (oi := { dst := some 58, op := _, type := _, pos := _, after := _, guard := _ }) (v := .bool false) rfl (by kernel_rfl) (by kernel_rfl) (by kernel_rfl) (fun _ _ _ h => h) (Or.inl ⟨by kernel_rfl, fun w hSw => by (try dsimp only at hSw); first | (go_simp; done) | (go_simp; rfl)⟩) hk ?_
      try simp only [Act.put, List.setIfInBounds_toArray, List.set_cons_zero, List.set_cons_succ]
      refine wpAnyH_take (i := 16) (oi := { dst := some 59, op := _, type := _, pos := _, after := _, guard := _ }) (v := .bool false) rfl (by kernel_rfl) (by kernel_rfl) (by kernel_rfl) (fun _ _ _ h => h) (Or.inl ⟨by kernel_rfl, fun w hSw => by (try dsimp only at hSw); first | (go_simp; done) | (go_simp; rfl)⟩) hk ?_
      try simp only [Act.put, List.setIfInBounds_toArray, List.set_cons_zero, List.set_cons_succ]
      refine wpAnyH_take (i := 17) (oi := { dst := some 60, op := _, type := _, pos := _, after := _, guard := _ }) (v := .slice (some ⟨g3, 0, none⟩) l3.length c3) rfl (by kernel_rfl) (by kernel_rfl) (by kernel_rfl) (fun _ _ _ h => h) (Or.inl ⟨by kernel_rfl, fun w hSw => by (try dsimp only at hSw); first | (go_simp; done) | (go_simp; rfl)⟩) hk ?_
      try simp only [Act.put, List.setIfInBounds_toArray, List.set_cons_zero, List.set_cons_succ]
      refine wpAnyH_take (i := 18) (oi := { dst := some 61, op := _, type := _, pos := _, after := _, guard := _ }) (v := .string S3) rfl (by kernel_rfl) (by kernel_rfl) (by kernel_rfl) (fun _ _ _ h => h) (Or.inl ⟨by kernel_rfl, fun w hSw => by (try dsimp only at hSw); first | (go_simp; done) | (go_simp; rfl)⟩) hk ?_
      try simp only [Act.put, List.setIfInBounds_toArray, List.set_cons_zero, List.set_cons_succ]
      refine wpAnyH_take (i := 19) (oi := { dst := some 62, op := _, type := _, pos := _, after := _, guard := _ }) (v := .pointer (some ⟨w.heap.size, 2, none⟩)) rfl (by kernel_rfl) (by kernel_rfl) (by kernel_rfl) (fun _ _ _ h => h) (Or.inl ⟨by kernel_rfl, fun w hSw => by (try dsimp only at hSw); first | (go_simp; done) | (go_simp; rfl)⟩) hk ?_
      try simp only [Act.put, List.setIfInBounds_toArray, List.set_cons_zero, List.set_cons_succ]
      refine wpAnyH_take (i := 20) (oi := { dst := some 63, op := _, type := _, pos := _, after := _, guard := _ }) (v := .float .f64 f0) rfl (by kernel_rfl) (by kernel_rfl) (by kernel_rfl) (fun _ _ _ h => h) (Or.inl ⟨by kernel_rfl, fun w hSw => by (try dsimp only at hSw); first | (go_simp; done) | (go_simp; rfl)⟩) hk ?_
      try simp only [Act.put, List.setIfInBounds_toArray, List.set_cons_zero, List.set_cons_succ]
      refine wpAnyH_ready (rs := [21]) (by kernel_rfl) (by simp) (AllReadyH.cons rfl (fun K' hK => ?_) AllReadyH.nil)
      rw [if_pos (by kernel_rfl)]
      go_simp
      (with_reducible refine (HR3.out _).mono ?_)
      rintro e r3 ⟨⟨q3, rfl, ho⟩, hb⟩
      have hcv3 := HCv3.out _ _ (Ints.own ho)
      obtain ⟨pp3, pl3, pc3, rfl⟩ := own_slice3 ho
      have HO1 := Lib.hid (own_below HO1.out hb)
      have HO2 := Lib.hid (own_below HO2.out hb)
      have HO3 := Lib.hid (own_below HO3.out hb)
      have HO4 := Lib.hid (own_below HO4.out hb)
      have hBx := hBx.trans (hb.mono (size_of hBx))
      have hk := eight_and (four_of hBx) (HCv1.out _ _ (Ints.own HO1.out)) (HCv2.out _ _ (Ints.own HO2.out)) (HCv3.out _ _ (Ints.own HO3.out)) (HCv4.out _ _ (Ints.own HO4.out))
      clear ho hb
      refine hK.out _ _ hk (fun _ => ?_)
      try simp only [Act.put, List.setIfInBounds_toArray, List.set_cons_zero, List.set_cons_succ]
      refine wpAnyH_ready (rs := [22]) (by kernel_rfl) (by simp) (AllReadyH.cons rfl (fun K' hK => ?_) AllReadyH.nil)
      rw [if_pos (by kernel_rfl)]
      go_simp
      clear hcv3
      refine hK.out _ _ hk (fun _ => ?_)
      try simp only [Act.put, List.setIfInBounds_toArray, List.set_cons_zero, List.set_cons_succ]
      refine wpAnyH_take (i := 23) (oi := { dst := some 66, op := _, type := _, pos := _, after := _, guard := _ }) (v := .bool false) rfl (by kernel_rfl) (by kernel_rfl) (by kernel_rfl) (fun _ _ _ h => h) (Or.inl ⟨by kernel_rfl, fun w hSw => by (try dsimp only at hSw); first | (go_simp; done) | (go_simp; rfl)⟩) hk ?_
      try simp only [Act.put, List.setIfInBounds_toArray, List.set_cons_zero, List.set_cons_succ]
      refine wpAnyH_take (i := 24) (oi := { dst := some 67, op := _, type := _, pos := _, after := _, guard := _ }) (v := .bool false) rfl (by kernel_rfl) (by kernel_rfl) (by kernel_rfl) (fun _ _ _ h => h) (Or.inl ⟨by kernel_rfl, fun w hSw => by (try dsimp only at hSw); first | (go_simp; done) | (go_simp; rfl)⟩) hk ?_
      try simp only [Act.put, List.setIfInBounds_toArray, List.set_cons_zero, List.set_cons_succ]
      refine wpAnyH_take (i := 25) (oi := { dst := some 68, op := _, type := _, pos := _, after := _, guard := _ }) (v := .bool false) rfl (by kernel_rfl) (by kernel_rfl) (by kernel_rfl) (fun _ _ _ h => h) (Or.inl ⟨by kernel_rfl, fun w hSw => by (try dsimp only at hSw); first | (go_simp; done) | (go_simp; rfl)⟩) hk ?_
      try simp only [Act.put, List.setIfInBounds_toArray, List.set_cons_zero, List.set_cons_succ]
      refine wpAnyH_take (i := 26) (oi := { dst := some 69, op := _, type := _, pos := _, after := _, guard := _ }) (v := .slice (some ⟨g4, 0, none⟩) l4.length c4) rfl (by kernel_rfl) (by kernel_rfl) (by kernel_rfl) (fun _ _ _ h => h) (Or.inl ⟨by kernel_rfl, fun w hSw => by (try dsimp only at hSw); first | (go_simp; done) | (go_simp; rfl)⟩) hk ?_
      try simp only [Act.put, List.setIfInBounds_toArray, List.set_cons_zero, List.set_cons_succ]
      refine wpAnyH_take (i := 27) (oi := { dst := some 70, op := _, type := _, pos := _, after := _, guard := _ }) (v := .string S4) rfl (by kernel_rfl) (by kernel_rfl) (by kernel_rfl) (fun _ _ _ h => h) (Or.inl ⟨by kernel_rfl, fun w hSw => by (try dsimp only at hSw); first | (go_simp; done) | (go_simp; rfl)⟩) hk ?_
      try simp only [Act.put, List.setIfInBounds_toArray, List.set_cons_zero, List.set_cons_succ]
      refine wpAnyH_take (i := 28) (oi := { dst := some 71, op := _, type := _, pos := _, after := _, guard := _ }) (v := .pointer (some ⟨w.heap.size, 3, none⟩)) rfl (by kernel_rfl) (by kernel_rfl) (by kernel_rfl) (fun _ _ _ h => h) (Or.inl ⟨by kernel_rfl, fun w hSw => by (try dsimp only at hSw); first | (go_simp; done) | (go_simp; rfl)⟩) hk ?_
      try simp only [Act.put, List.setIfInBounds_toArray, List.set_cons_zero, List.set_cons_succ]
      refine wpAnyH_take (i := 29) (oi := { dst := some 72, op := _, type := _, pos := _, after := _, guard := _ }) (v := .string s0) rfl (by kernel_rfl) (by kernel_rfl) (by kernel_rfl) (fun _ _ _ h => h) (Or.inl ⟨by kernel_rfl, fun w hSw => by (try dsimp only at hSw); first | (go_simp; done) | (go_simp; rfl)⟩) hk ?_
      try simp only [Act.put, List.setIfInBounds_toArray, List.set_cons_zero, List.set_cons_succ]
      refine wpAnyH_ready (rs := [30]) (by kernel_rfl) (by simp) (AllReadyH.cons rfl (fun K' hK => ?_) AllReadyH.nil)
      rw [if_pos (by kernel_rfl)]
      go_simp
      (with_reducible refine (HR4.out _).mono ?_)
      rintro e r4 ⟨⟨q4, rfl, ho⟩, hb⟩
      have hcv4 := HCv4.out _ _ (Ints.own ho)
      obtain ⟨pp4, pl4, pc4, rfl⟩ := own_slice3 ho
      have HO1 := Lib.hid (own_below HO1.out hb)
      have HO2 := Lib.hid (own_below HO2.out hb)
      have HO3 := Lib.hid (own_below HO3.out hb)
      have HO4 := Lib.hid (own_below HO4.out hb)
      have hBx := hBx.trans (hb.mono (size_of hBx))
      have hk := eight_and (four_of hBx) (HCv1.out _ _ (Ints.own HO1.out)) (HCv2.out _ _ (Ints.own HO2.out)) (HCv3.out _ _ (Ints.own HO3.out)) (HCv4.out _ _ (Ints.own HO4.out))
      clear ho hb
      refine hK.out _ _ hk (fun _ => ?_)
      try simp only [Act.put, List.setIfInBounds_toArray, List.set_cons_zero, List.set_cons_succ]
      refine wpAnyH_ready (rs := [31]) (by kernel_rfl) (by simp) (AllReadyH.cons rfl (fun K' hK => ?_) AllReadyH.nil)
      rw [if_pos (by kernel_rfl)]
      go_simp
      clear hcv4
      refine hK.out _ _ hk (fun _ => ?_)
      try simp only [Act.put, List.setIfInBounds_toArray, List.set_cons_zero, List.set_cons_succ]
      refine wpAnyH_take (i := 32) (oi := { dst := some 75, op := _, type := _, pos := _, after := _, guard := _ }) (v := .bool false) rfl (by kernel_rfl) (by kernel_rfl) (by kernel_rfl) (fun _ _ _ h => h) (Or.inl ⟨by kernel_rfl, fun w hSw => by (try dsimp only at hSw); first | (go_simp; done) | (go_simp; rfl)⟩) hk ?_
      try simp only [Act.put, List.setIfInBounds_toArray, List.set_cons_zero, List.set_cons_succ]
      refine wpAnyH_take (i := 33) (oi := { dst := some 76, op := _, type := _, pos := _, after := _, guard := _ }) (v := .bool false) rfl (by kernel_rfl) (by kernel_rfl) (by kernel_rfl) (fun _ _ _ h => h) (Or.inl ⟨by kernel_rfl, fun w hSw => by (try dsimp only at hSw); first | (go_simp; done) | (go_simp; rfl)⟩) hk ?_
      try simp only [Act.put, List.setIfInBounds_toArray, List.set_cons_zero, List.set_cons_succ]
      refine wpAnyH_done (by kernel_rfl) ?_ _
      clear hk
      go_wp2_with (at_builtin; refine wpList_append_want _ (by rfl) _ _ 26 rfl (w.heap.size + 1) 5 i0 (.int .u8 0) 1 Try.underlying26 hi hz0 hz1 hz2 rfl .u8 _ _ l1 z rfl rfl HO1.out (HZ.out _ (below_of hBx)) (by have := HM1.out; have := HMz.out; unfold maxLen; omega) (by have := HM1.out; have := HMz.out; omega) (size_of hBx) ?_; intro va wa hown hgrow; have HO2 := Lib.hid (World.ownsRow.kept HO2.out hgrow (.inr (other_block (g' := g1) (by omega)))); have HO3 := Lib.hid (World.ownsRow.kept HO3.out hgrow (.inr (other_block (g' := g1) (by omega)))); have HO4 := Lib.hid (World.ownsRow.kept HO4.out hgrow (.inr (other_block (g' := g1) (by omega)))); have hBx := hBx.grown hgrow (size_of hBx) (fun k hk => by cases hk; exact hge1); have HIa := Lib.hid (Ints.own hown); obtain ⟨pa, pl, pc, rfl⟩ := own_slice3 hown; clear hown hgrow)
      refine (HG1.out _ _ HIa.out).mono ?_; rintro e wb ⟨rfl, hb⟩
      have HO2 := Lib.hid (own_below HO2.out hb)
      have HO3 := Lib.hid (own_below HO3.out hb)
      have HO4 := Lib.hid (own_below HO4.out hb)
      have hBx := hBx.trans (hb.mono (size_of hBx))
      clear hb HIa
      go_wp2_with (at_builtin; refine wpList_append_want _ (by rfl) _ _ 26 rfl (w.heap.size + 1) 5 i0 (.int .u8 0) 1 Try.underlying26 hi hz0 hz1 hz2 rfl .u8 _ _ l2 z rfl rfl HO2.out (HZ.out _ (below_of hBx)) (by have := HM2.out; have := HMz.out; unfold maxLen; omega) (by have := HM2.out; have := HMz.out; omega) (size_of hBx) ?_; intro va wa hown hgrow; have HO3 := Lib.hid (World.ownsRow.kept HO3.out hgrow (.inr (other_block (g' := g2) (by omega)))); have HO4 := Lib.hid (World.ownsRow.kept HO4.out hgrow (.inr (other_block (g' := g2) (by omega)))); have hBx := hBx.grown hgrow (size_of hBx) (fun k hk => by cases hk; exact hge2); have HIa := Lib.hid (Ints.own hown); obtain ⟨pa, pl, pc, rfl⟩ := own_slice3 hown; clear hown hgrow)
      refine (HG2.out _ _ HIa.out).mono ?_; rintro e wb ⟨rfl, hb⟩
      have HO3 := Lib.hid (own_below HO3.out hb)
      have HO4 := Lib.hid (own_below HO4.out hb)
      have hBx := hBx.trans (hb.mono (size_of hBx))
      clear hb HIa
      go_wp2_with (at_builtin; refine wpList_append_want _ (by rfl) _ _ 26 rfl (w.heap.size + 1) 5 i0 (.int .u8 0) 1 Try.underlying26 hi hz0 hz1 hz2 rfl .u8 _ _ l3 z rfl rfl HO3.out (HZ.out _ (below_of hBx)) (by have := HM3.out; have := HMz.out; unfold maxLen; omega) (by have := HM3.out; have := HMz.out; omega) (size_of hBx) ?_; intro va wa hown hgrow; have HO4 := Lib.hid (World.ownsRow.kept HO4.out hgrow (.inr (other_block (g' := g3) (by omega)))); have hBx := hBx.grown hgrow (size_of hBx) (fun k hk => by cases hk; exact hge3); have HIa := Lib.hid (Ints.own hown); obtain ⟨pa, pl, pc, rfl⟩ := own_slice3 hown; clear hown hgrow)
      refine (HG3.out _ _ HIa.out).mono ?_; rintro e wb ⟨rfl, hb⟩
      have HO4 := Lib.hid (own_below HO4.out hb)
      have hBx := hBx.trans (hb.mono (size_of hBx))
      clear hb HIa
      go_wp2_with (at_builtin; refine wpList_append_want _ (by rfl) _ _ 26 rfl (w.heap.size + 1) 5 i0 (.int .u8 0) 1 Try.underlying26 hi hz0 hz1 hz2 rfl .u8 _ _ l4 z rfl rfl HO4.out (HZ.out _ (below_of hBx)) (by have := HM4.out; have := HMz.out; unfold maxLen; omega) (by have := HM4.out; have := HMz.out; omega) (size_of hBx) ?_; intro va wa hown hgrow; have hBx := hBx.grown hgrow (size_of hBx) (fun k hk => by cases hk; exact hge4); have HIa := Lib.hid (Ints.own hown); obtain ⟨pa, pl, pc, rfl⟩ := own_slice3 hown; clear hown hgrow)
      refine (HG4.out _ _ HIa.out).mono ?_; rintro e wb ⟨rfl, hb⟩
      have hBx := hBx.trans (hb.mono (size_of hBx))
      clear hb HIa
      obtain ⟨k0, k1, k2, k3⟩ := four_of hBx
      go_wp2_with fail
      refine (HSm.out _).mono ?_; rintro e wc ⟨rfl, hd⟩
      have hb := hd.below
      have hBx := hBx.trans (hb.mono (size_of hBx))
      obtain ⟨k0, k1, k2, k3⟩ := four_of hBx
      clear hb hd
      go_wp2_with fail
      refine (HA.out _).mono ?_; rintro e wd ⟨rfl, hb⟩
      have HE := Lib.hid (below_of (hBx.trans (hb.mono (size_of hBx))))
      clear hb hBx
      go_wp2_with fail
      go_ret
      exact ⟨by rfl, HE.out⟩
set_option maxRecDepth 100000 in
theorem lifted (os : Os) (started : os.Started) (H : Type) (enc : TypeId × Value → H) :
    ReturnsInHanded {} Try.checked os 3 .any (Rows.codePutsSpec.pre6 enc Try.prog Try.f3 Rows.codePutsRow.domain false) (Rows.codePutsSpec.post enc Try.prog Try.f3 false true false false) := by
  refine returnsInHanded_of_change (C := Try.checked) own started (by kernel_rfl) Try.func3
    (ChangeSpec.witness6 (enc := enc) (C := Try.checked) false ⟨#[], #[.agg #[.int .u64 0, .int .i64 0, .float .f64 0, .string ByteArray.empty], .slice none 0 0], []⟩ 8 (by kernel_rfl) (by kernel_rfl) (by kernel_rfl) (by kernel_rfl)) ?_
  intro W base args ds gs before hval0 hW hcnd _
  have hval : ∀ (j : Nat) t v, Try.f3.params[j]? = some t → args[j]? = some v → Value.okWide Try.prog W .any base t v := hval0
  have hW' := hW
  obtain ⟨p, q, hA0, hV, rfl, hfz, hnd⟩ := hW
  have hA : DataW.TrodAll enc Try.prog W 0 (fun _ => true) true Try.f3.params.toList args.toList ds p := hA0
  rw [Try.params3] at hA hval
  obtain ⟨v0, vs0, d0, ds0, p0, q0, hargs, rfl, rfl, h0, r0⟩ := trodAll_cons hA
  obtain ⟨v1, vs1, d1, ds1, p1, q1, rfl, rfl, rfl, h1, r1⟩ := trodAll_cons r0
  obtain ⟨rfl, rfl, rfl⟩ := trodAll_nil r1
  obtain rfl : args = #[v0, v1] := by cases args; simp_all
  obtain ⟨rfl, rfl⟩ := trodVars_none hV
  have k0 := h0
  have lt0 : ∀ x ∈ p0, x.block < W.heap.size := by obtain ⟨m, hm⟩ := k0; exact DataW.trod_lt m _ _ _ hm
  obtain ⟨x0, n0, f0, s0, rfl, wx0, wn0, wf0, ws0⟩ : ∃ (x : Int) (n : Int) (f : Nat) (s : ByteArray), v0 = .agg #[.int .u64 x, .int .i64 n, .float .f64 f, .string s] ∧ (Lit.int .u64 x).wf = true ∧ (Lit.int .i64 n).wf = true ∧ (Lit.float .f64 f).wf = true ∧ s.size ≤ maxLen := by
    obtain ⟨u0, u1, u2, u3, y0, y1, y2, y3, m, rfl, -, -, t0, t1, t2, t3⟩ := open_agg4 Try.underlying25 (by kernel_rfl) (by kernel_rfl) (hval 0 25 v0 rfl rfl) h0
    obtain ⟨x, e0, -, wx⟩ := DataW.trod_int Try.underlying22 t0
    obtain ⟨n, e1, -, wn⟩ := DataW.trod_int Try.underlying2 t1
    obtain ⟨f, e2, wf⟩ := trod_float Try.underlying23 t2
    obtain ⟨s, e3, -, ws⟩ := DataW.trod_string Try.underlying9 t3
    cases e0; cases e1; cases e2; cases e3
    exact ⟨x, n, f, s, rfl, wx, wn, wf, ws⟩
  obtain ⟨a1, len1, cap1, rfl⟩ := okWide_slice Try.underlying26 (hval 1 26 v1 rfl rfl)
  have k1 := h1
  have lt1 : ∀ x ∈ p1, x.block < W.heap.size := by obtain ⟨m, hm⟩ := k1; exact DataW.trod_lt m _ _ _ hm
  obtain ⟨z1, w1⟩ : ∃ zs, Given .u8 W (.slice a1 len1 cap1) zs := by
    obtain ⟨fuel, hf⟩ := h1
    rcases open_ints Try.underlying26 Try.underlying5 (by kernel_rfl) hf with ⟨hcs, _⟩ | ⟨x, l, c, zs, hcs, _, hl, hm, hz, _, hcell, hwz⟩
    · simp [Value.cells] at hcs
      obtain ⟨rfl, rfl, rfl⟩ := hcs
      exact ⟨[], given_nil⟩
    · simp [Value.cells] at hcs
      obtain ⟨rfl, rfl, rfl⟩ := hcs
      exact ⟨_, given_row hl (by simpa using hz) hcell hwz⟩
  clear hA0 hval0
  refine (walk x0 n0 f0 s0 a1 len1 cap1 z1 W wx0 wn0 wf0 ws0 w1).mono fun e W' ⟨he, bel⟩ => ?_
  subst he
  exact ⟨_, rfl, _, _, _, [], _, [], hW', trodAll_mk1 (shut_bool Try.underlying4 _), (trodAll_cons_mk (Below.trod laidOut (by kernel_rfl) (of_decide_eq_true (by kernel_rfl)) k0 bel lt0) (trodAll_cons_mk (Below.trod laidOut (by kernel_rfl) (of_decide_eq_true (by kernel_rfl)) k1 bel lt1) trodAll_mk0)), rfl, bel.frame _, fun h => by cases h⟩

theorem over : Rows.codePutsRow.holds Try.pinned (OpenSpec.ofChange Rows.codePutsSpec) :=
  OpenClaim.holds_of_wide 3 Try.f3 rfl rfl rfl rfl rfl rfl rfl ⟨rfl, rfl, rfl, rfl, rfl⟩ rfl rfl rfl rfl rfl (by kernel_rfl) Try.func3 (by kernel_rfl)
    (of_decide_eq_true (by kernel_rfl)) (by unfold Func.isWrapper; first | (rw [if_pos (by decide +kernel)]; kernel_rfl) | (rw [if_neg (by decide +kernel)]; exact ⟨rfl, rfl⟩))
    (fun os started H enc _ => lifted os started H enc)
end Go.Proofs.Ytggleiemegeaaaa.codePuts
namespace Go.Proofs.Ytggleiemegeaaaa
/-- The statement. -/
theorem codePuts_holds : Rows.CodePutsSaid := codePuts.over
#print axioms codePuts_holds
end Go.Proofs.Ytggleiemegeaaaa
