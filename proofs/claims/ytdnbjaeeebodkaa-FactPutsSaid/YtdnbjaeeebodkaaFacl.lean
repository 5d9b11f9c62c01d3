/- Layer 12: the reference's Put; the chapter's example. -/
import Derived.Test.YtdnbjaeeebodkaaFack
namespace Go.Proofs.Ytdnbjaeeebodkaa
set_option maxRecDepth 100000
open Go.RowKit
set_option linter.unusedVariables false
theorem rN_any (x : Nat) (w : World) (hx : W64 x) : Calls Try.prog 47 #[.float .f64 x] w (BytesP w (eN x)) := by
  have hk := key_range hx
  exact rF_any x (keyI x).toNat w hx (by omega)
/-- A fact that a batch may hold. -/
structure Small (f : Fa) : Prop where
  wf : FaWf f
  c : ∀ x ∈ f.cs, 0 ≤ x ∧ x ≤ 4096
  l : f.cs.length ≤ 6 ∧ f.is.length ≤ 3 ∧ f.ns.length ≤ 2
theorem small_of {S : Sc} {f : Fa} (hc : checkL S = 0) (hf : FaWf f) (h : fitsL S f = 0) : Small f := ⟨hf, (fit_small hc hf h).1, (fit_small hc hf h).2⟩
theorem Small.le {f : Fa} (h : Small f) : (encFa f).length ≤ 61 := by
  have k1 := flat_max' (eU_max h.c)
  have k2 := flat_max' (eI_max h.wf.i)
  have k3 := flat_max' (eN_max (l := f.ns))
  have := h.l
  unfold encFa
  simp only [List.length_append]
  omega
theorem int_at {w : World} {k : IntKind} {a : Option Addr} {n cap : Nat} {xs : List Int} {j : Nat} (h : Ints k w (.slice a n cap) xs) (hj : j < xs.length) : ∃ b off, a = some ⟨b, off, none⟩ ∧ b < w.heap.size ∧ w.cell? ⟨b, off + j, none⟩ = some (.int k (xs.getD j 0)) := by
  obtain ⟨a', cap', e', -, h3⟩ := h
  injection e' with e1 e2 e3
  subst e1
  rcases h3 with h3 | ⟨b, off, rfl, hlt, hc⟩
  · rw [h3] at hj; simp at hj
  · exact ⟨b, off, rfl, hlt, hc j hj⟩
theorem fl_at {w : World} {a : Option Addr} {n cap : Nat} {xs : List Nat} {j : Nat} (h : Fls w (.slice a n cap) xs) (hj : j < xs.length) : ∃ b off, a = some ⟨b, off, none⟩ ∧ b < w.heap.size ∧ w.cell? ⟨b, off + j, none⟩ = some (.float .f64 (xs.getD j 0)) := by
  obtain ⟨a', cap', e', -, h3⟩ := h
  injection e' with e1 e2 e3
  subst e1
  rcases h3 with h3 | ⟨b, off, rfl, hlt, hc⟩
  · rw [h3] at hj; simp at hj
  · exact ⟨b, off, rfl, hlt, hc j hj⟩
theorem getD_all {α : Type} {P : α → Prop} {l : List α} {d : α} (h : ∀ x ∈ l, P x) {k : Nat} (hk : k < l.length) : P (l.getD k d) := by
  have e : l.getD k d = l[k] := by simp [List.getD, hk]
  rw [e]; exact h _ (List.getElem_mem hk)
theorem flat_next' {α : Type} {e : α → List Int} {l : List α} {d : α} {k : Nat} (hk : k < l.length) : (l.take (k + 1)).flatMap e = (l.take k).flatMap e ++ e (l.getD k d) := by
  have e1 : l.getD k d = l[k] := by simp [List.getD, hk]
  rw [e1]; exact flat_snoc hk
set_option maxHeartbeats 16000000 in
theorem rfput_any (w : World) (v : Value) (l : List Fa) (h : Facts w v l) (hs : ∀ f ∈ l, Small f) (hl : l.length ≤ 200) :
    Calls Try.prog 17 #[v] w (BytesP w (encFs l)) := by
  obtain ⟨i0, hi, hz0, hz1, hz2⟩ := info_parts Try.infoU8
  have HU := Lib.hid (rU_any l.length w (by omega))
  have hul := (encU_len (x := l.length) (by omega)).2
  have HLn := Lib.hid (fun k => flat_max (e := encFa) (n := 61) (l := l) (fun x hx => (hs x hx).le) k)
  have HS := Lib.hid (fun k (hk : k < l.length) => hs _ (List.getElem_mem hk))
  have HN := Lib.hid (fun k (hk : k < l.length) => show (l.take (k + 1)).flatMap encFa = (l.take k).flatMap encFa ++ (l[k].cs.flatMap eU ++ l[k].is.flatMap encI ++ l[k].ns.flatMap eN) from flat_snoc hk)
  have HE := Lib.hid (show encU l.length ++ (l.take l.length).flatMap encFa = encFs l by rw [List.take_length]; rfl)
  obtain ⟨a, cap, rfl, h1, hmx, h3⟩ := h
  have HC := Lib.hid h3
  have i1 : IntKind.u64.wrap (l.length : Int) = (l.length : Int) := by rw [IntKind.wrap_u64]; omega
  generalize encFs l = EF at *
  generalize encU l.length = EU at *
  clear hs h3 h1
  go_enter Try.func17, Try.ntmps17
  go_wp2_with fail
  refine (HU.out).mono ?_; rintro r w1 ⟨⟨d, rfl, ho⟩, hb⟩
  have HS0 := Lib.hid (And.intro ho hb)
  obtain ⟨pa, pl, pc, rfl⟩ := own_slice3 ho
  clear ho hb
  go_wp2_with fail
  go_loopw [3, 4] (fun lv i wr => ∃ k : Nat, k ≤ l.length ∧ i = .int .i64 k ∧ Hid (BOwn wr w.heap.size lv (EU ++ (l.take k).flatMap encFa) ∧ Below w.heap.size w wr)) (fun _ i _ => l.length - (intOf i).toNat)
  case atStart => exact ⟨0, Nat.zero_le _, rfl, Lib.hid ⟨(show EU ++ (l.take 0).flatMap encFa = EU by simp).symm ▸ HS0.out.1, HS0.out.2⟩⟩
  case round =>
    obtain ⟨k, hk, rfl, HR0⟩ := hrel
    obtain ⟨pa, pl, pc, rfl⟩ := own_slice3 HR0.out.1
    by_cases hlk : k < l.length
    · have hlk' : (k : Int) < (l.length : Int) := by omega
      rcases HC.out with h3 | ⟨b, off, rfl, hlt, hcc⟩
      · rw [h3] at hlk; simp at hlk
      obtain ⟨C, J, N, hx, hf3⟩ := hcc k hlk
      have HX := Lib.hid (fun wr (hb : Below w.heap.size w wr) => tri_hold hb hx)
      have HNk := Lib.hid (HN.out k hlk)
      have hLk := HLn.out k
      have HEq := Lib.hid (fun Y => List.append_assoc EU ((l.take k).flatMap encFa) Y)
      obtain ⟨⟨ca, cc, rfl⟩, ⟨ia, ic, rfl⟩, na, nc, rfl⟩ := hf3.slices
      have HF := Lib.hid hf3
      have HSk := Lib.hid (HS.out k hlk)
      have hsl := (HS.out k hlk).l
      have HLE := Lib.hid (show (EU ++ (l.take k).flatMap encFa).length ≤ 20000 by simp only [List.length_append]; omega)
      generalize EU ++ (l.take k).flatMap encFa = E0 at *
      clear hcc hx hf3 hLk
      generalize l[k] = f at *
      have HM1 := Lib.hid (fun j => flat_max (e := eU) (l := f.cs) (eU_max HSk.out.c) j)
      have HM2 := Lib.hid (fun j => flat_max (e := encI) (l := f.is) (eI_max HSk.out.wf.i) j)
      have HM3 := Lib.hid (fun j => flat_max (e := eN) (l := f.ns) eN_max j)
      go_wp2_with fail
      go_loopw [3, 5] (fun lv i wr => ∃ j : Nat, j ≤ f.cs.length ∧ i = .int .i64 j ∧ Hid (BOwn wr w.heap.size lv (E0 ++ (f.cs.take j).flatMap eU) ∧ Below w.heap.size w wr)) (fun _ i _ => f.cs.length - (intOf i).toNat)
      case atStart => exact ⟨0, Nat.zero_le _, rfl, Lib.hid ⟨(show E0 ++ (f.cs.take 0).flatMap eU = E0 by simp).symm ▸ HR0.out.1, HR0.out.2⟩⟩
      case round =>
        obtain ⟨j, hj, rfl, HR1⟩ := hrel
        obtain ⟨pa, pl, pc, rfl⟩ := own_slice3 HR1.out.1
        obtain ⟨x0, x1, x2⟩ := HX.out _ HR1.out.2
        by_cases hlj : j < f.cs.length
        · have hlj' : (j : Int) < (f.cs.length : Int) := by omega
          obtain ⟨cb, coff, rfl, hclt, hcx⟩ := int_at HF.out.c hlj
          have hcx := cell_hold HR1.out.2 hcx
          have hv0 := getD_all (d := 0) HSk.out.c hlj
          have HT := Lib.hid (fun w => rU_any (f.cs.getD j 0).toNat w (by omega))
          have ez : ((f.cs.getD j 0).toNat : Int) = f.cs.getD j 0 := by omega
          rw [ez] at HT
          change Hid (∀ w, Calls _ _ _ _ (BytesP w (eU (f.cs.getD j 0)))) at HT
          have iz : IntKind.u64.wrap (f.cs.getD j 0) = f.cs.getD j 0 := by rw [IntKind.wrap_u64]; omega
          have HYl := Lib.hid (encU_three (x := (f.cs.getD j 0).toNat) (by omega))
          change Hid ((eU (f.cs.getD j 0)).length ≤ 3) at HYl
          clear hv0 ez
          have HNj := Lib.hid (flat_next' (e := eU) (d := 0) hlj)
          have HMj := Lib.hid (And.intro (HM1.out j) (HM1.out (j + 1)))
          have hpl := HLE.out
          have HPL := Lib.hid (show (E0 ++ (f.cs.take j).flatMap eU).length + 3 ≤ 30000 by have h1 := HM1.out f.cs.length; have h2 := HM2.out f.is.length; rw [List.take_length] at h1 h2; have := HMj.out; simp only [List.length_append]; omega)
          generalize f.cs.getD j 0 = x at *
          generalize eU x = y at *
          generalize (f.cs.take j).flatMap eU = q at *
          go_wp2_with fail
          refine (HT.out _).mono ?_; rintro r w2 ⟨⟨d, rfl, ho⟩, hb⟩
          have HO2 := Lib.hid (own_stay HR1.out.1 hb)
          have HB2 := Lib.hid (below_then HR1.out.2 hb)
          have HD2 := Lib.hid (Ints.own ho)
          obtain ⟨da, dl, dc, rfl⟩ := own_slice3 ho
          clear ho hb x0 x1 x2 hcx
          go_wp2_with (at_builtin; refine wpList_append_want _ (by rfl) _ _ 46 rfl w.heap.size 5 i0 (.int .u8 0) 1 Try.underlying46 hi hz0 hz1 hz2 rfl .u8 _ _ (E0 ++ q) y rfl rfl HO2.out HD2.out (by have := HPL.out; have := HYl.out; unfold maxLen; omega) (by have := HPL.out; have := HYl.out; omega) HB2.out.size ?_; intro v' w3 hown hgrow; have HQ := Lib.hid (And.intro hown (HB2.out.grown hgrow HB2.out.size (fun g hg => (HO2.out.lt g hg).1))); obtain ⟨pv', lv', cv', rfl⟩ := own_slice3 hown; clear hown hgrow)
          go_roundw
          case rel => exact ⟨j + 1, by omega, by go_num, Lib.hid ⟨by rw [HNj.out, ← List.append_assoc]; exact HQ.out.1, HQ.out.2⟩⟩
          case measure => simp [intOf]; omega
        · have hje : j = f.cs.length := by omega
          subst hje
          have HG1 := HR1.out
          rw [List.take_length] at HG1
          have HG1 := Lib.hid HG1
          go_wp2_with fail
          go_loopw [3, 6] (fun lv i wr => ∃ j : Nat, j ≤ f.is.length ∧ i = .int .i64 j ∧ Hid (BOwn wr w.heap.size lv (E0 ++ f.cs.flatMap eU ++ (f.is.take j).flatMap encI) ∧ Below w.heap.size w wr)) (fun _ i _ => f.is.length - (intOf i).toNat)
          case atStart => exact ⟨0, Nat.zero_le _, rfl, Lib.hid ⟨(show E0 ++ f.cs.flatMap eU ++ (f.is.take 0).flatMap encI = E0 ++ f.cs.flatMap eU by simp).symm ▸ HG1.out.1, HG1.out.2⟩⟩
          case round =>
            obtain ⟨j, hj, rfl, HR2⟩ := hrel
            obtain ⟨pa, pl, pc, rfl⟩ := own_slice3 HR2.out.1
            obtain ⟨x0, x1, x2⟩ := HX.out _ HR2.out.2
            by_cases hlj : j < f.is.length
            · have hlj' : (j : Int) < (f.is.length : Int) := by omega
              obtain ⟨cb, coff, rfl, hclt, hcx⟩ := int_at HF.out.i hlj
              have hcx := cell_hold HR2.out.2 hcx
              have hv0 := getD_all (d := 0) HSk.out.wf.i hlj
              have HT := Lib.hid (fun w => rI_any (f.is.getD j 0) w hv0.1 hv0.2)
              have HYl := Lib.hid (encI_len hv0.1 hv0.2).2
              clear hv0
              have HNj := Lib.hid (flat_next' (e := encI) (d := 0) hlj)
              have HMj := Lib.hid (And.intro (HM2.out j) (HM2.out (j + 1)))
              have hpl := HLE.out
              have HPL := Lib.hid (show (E0 ++ f.cs.flatMap eU ++ (f.is.take j).flatMap encI).length + 9 ≤ 30000 by have h1 := HM1.out f.cs.length; have h2 := HM2.out f.is.length; rw [List.take_length] at h1 h2; have := HMj.out; simp only [List.length_append]; omega)
              generalize f.is.getD j 0 = x at *
              generalize encI x = y at *
              generalize (f.is.take j).flatMap encI = q at *
              go_wp2_with fail
              refine (HT.out _).mono ?_; rintro r w2 ⟨⟨d, rfl, ho⟩, hb⟩
              have HO2 := Lib.hid (own_stay HR2.out.1 hb)
              have HB2 := Lib.hid (below_then HR2.out.2 hb)
              have HD2 := Lib.hid (Ints.own ho)
              obtain ⟨da, dl, dc, rfl⟩ := own_slice3 ho
              clear ho hb x0 x1 x2 hcx
              go_wp2_with (at_builtin; refine wpList_append_want _ (by rfl) _ _ 46 rfl w.heap.size 5 i0 (.int .u8 0) 1 Try.underlying46 hi hz0 hz1 hz2 rfl .u8 _ _ (E0 ++ f.cs.flatMap eU ++ q) y rfl rfl HO2.out HD2.out (by have := HPL.out; have := HYl.out; unfold maxLen; omega) (by have := HPL.out; have := HYl.out; omega) HB2.out.size ?_; intro v' w3 hown hgrow; have HQ := Lib.hid (And.intro hown (HB2.out.grown hgrow HB2.out.size (fun g hg => (HO2.out.lt g hg).1))); obtain ⟨pv', lv', cv', rfl⟩ := own_slice3 hown; clear hown hgrow)
              go_roundw
              case rel => exact ⟨j + 1, by omega, by go_num, Lib.hid ⟨by rw [HNj.out, ← List.append_assoc]; exact HQ.out.1, HQ.out.2⟩⟩
              case measure => simp [intOf]; omega
            · have hje : j = f.is.length := by omega
              subst hje
              have HG2 := HR2.out
              rw [List.take_length] at HG2
              have HG2 := Lib.hid HG2
              go_wp2_with fail
              go_loopw [3, 7] (fun lv i wr => ∃ j : Nat, j ≤ f.ns.length ∧ i = .int .i64 j ∧ Hid (BOwn wr w.heap.size lv (E0 ++ f.cs.flatMap eU ++ f.is.flatMap encI ++ (f.ns.take j).flatMap eN) ∧ Below w.heap.size w wr)) (fun _ i _ => f.ns.length - (intOf i).toNat)
              case atStart => exact ⟨0, Nat.zero_le _, rfl, Lib.hid ⟨(show E0 ++ f.cs.flatMap eU ++ f.is.flatMap encI ++ (f.ns.take 0).flatMap eN = E0 ++ f.cs.flatMap eU ++ f.is.flatMap encI by simp).symm ▸ HG2.out.1, HG2.out.2⟩⟩
              case round =>
                obtain ⟨j, hj, rfl, HR3⟩ := hrel
                obtain ⟨pa, pl, pc, rfl⟩ := own_slice3 HR3.out.1
                obtain ⟨x0, x1, x2⟩ := HX.out _ HR3.out.2
                by_cases hlj : j < f.ns.length
                · have hlj' : (j : Int) < (f.ns.length : Int) := by omega
                  obtain ⟨cb, coff, rfl, hclt, hcx⟩ := fl_at HF.out.n hlj
                  have hcx := cell_hold HR3.out.2 hcx
                  have HT := Lib.hid (fun w => rN_any (f.ns.getD j 0) w (getD_all (d := 0) HSk.out.wf.n hlj))
                  have HYl := Lib.hid (show (eN (f.ns.getD j 0)).length ≤ 8 by unfold eN encF; rw [bigN_len]; exact Nat.le_refl _)
                  have HNj := Lib.hid (flat_next' (e := eN) (d := 0) hlj)
                  have HMj := Lib.hid (And.intro (HM3.out j) (HM3.out (j + 1)))
                  have hpl := HLE.out
                  have HPL := Lib.hid (show (E0 ++ f.cs.flatMap eU ++ f.is.flatMap encI ++ (f.ns.take j).flatMap eN).length + 8 ≤ 30000 by have h1 := HM1.out f.cs.length; have h2 := HM2.out f.is.length; rw [List.take_length] at h1 h2; have := HMj.out; simp only [List.length_append]; omega)
                  generalize f.ns.getD j 0 = x at *
                  generalize eN x = y at *
                  generalize (f.ns.take j).flatMap eN = q at *
                  go_wp2_with fail
                  refine (HT.out _).mono ?_; rintro r w2 ⟨⟨d, rfl, ho⟩, hb⟩
                  have HO2 := Lib.hid (own_stay HR3.out.1 hb)
                  have HB2 := Lib.hid (below_then HR3.out.2 hb)
                  have HD2 := Lib.hid (Ints.own ho)
                  obtain ⟨da, dl, dc, rfl⟩ := own_slice3 ho
                  clear ho hb x0 x1 x2 hcx
                  go_wp2_with (at_builtin; refine wpList_append_want _ (by rfl) _ _ 46 rfl w.heap.size 5 i0 (.int .u8 0) 1 Try.underlying46 hi hz0 hz1 hz2 rfl .u8 _ _ (E0 ++ f.cs.flatMap eU ++ f.is.flatMap encI ++ q) y rfl rfl HO2.out HD2.out (by have := HPL.out; have := HYl.out; unfold maxLen; omega) (by have := HPL.out; have := HYl.out; omega) HB2.out.size ?_; intro v' w3 hown hgrow; have HQ := Lib.hid (And.intro hown (HB2.out.grown hgrow HB2.out.size (fun g hg => (HO2.out.lt g hg).1))); obtain ⟨pv', lv', cv', rfl⟩ := own_slice3 hown; clear hown hgrow)
                  go_roundw
                  case rel => exact ⟨j + 1, by omega, by go_num, Lib.hid ⟨by rw [HNj.out, ← List.append_assoc]; exact HQ.out.1, HQ.out.2⟩⟩
                  case measure => simp [intOf]; omega
                · have hje : j = f.ns.length := by omega
                  subst hje
                  have HG3 := HR3.out
                  rw [List.take_length] at HG3
                  have HG3 := Lib.hid HG3
                  go_wp2_with fail
                  go_roundw
                  case rel => exact ⟨k + 1, by omega, by go_num, Lib.hid ⟨by rw [HNk.out, ← HEq.out]; have := HG3.out.1; simpa only [List.append_assoc] using this, HG3.out.2⟩⟩
                  case measure => simp [intOf]; omega
    · have hke : k = l.length := by omega
      subst hke
      have HR9 := HR0.out
      rw [HE.out] at HR9
      have HG9 := Lib.hid HR9
      clear HR9
      go_wp2_with fail
      go_ret
      exact ⟨⟨_, rfl, HG9.out.1⟩, HG9.out.2⟩
end Go.Proofs.Ytdnbjaeeebodkaa
