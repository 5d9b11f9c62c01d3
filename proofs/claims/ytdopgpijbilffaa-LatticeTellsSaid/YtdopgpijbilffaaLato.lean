/- Layer 17: the reference's Between. -/
import Derived.Test.YtdopgpijbilffaaLatn
namespace Go.Proofs.Ytdopgpijbilffaa
set_option maxRecDepth 100000
open Go.RowKit
set_option linter.unusedVariables false
theorem map_take_next {L : List Nat} {p k : Nat} (hk : k < L.length) : L ++ (L.map (· + p)).take (k + 1) = (L ++ (L.map (· + p)).take k) ++ [L.getD k 0 + p] := by
  rw [List.append_assoc]
  congr 1
  have h1 : k < (L.map (· + p)).length := by simpa using hk
  rw [take_snoc (L.map (· + p)) k h1 0]
  congr 2
  simp [List.getD, hk]
theorem app_get {L M : List Nat} {k : Nat} (hk : k < L.length) : (L ++ M).getD k 0 = L.getD k 0 := by
  rw [List.getD_eq_getElem?_getD, List.getElem?_append_left hk, ← List.getD_eq_getElem?_getD]
set_option maxHeartbeats 8000000 in
theorem rbetween_any (w : World) (a b : Nat) (ha : a < 4294967296) (hb : b < 4294967296) (hs : subN a b = true) (hc : cntN 32 (b - a) ≤ 12) :
    Calls Try.prog 14 #[.int .u32 a, .int .u32 b] w fun e w' => (∃ u, e = .returned u ∧ Msk w' u (betN a b)) ∧ Below w.heap.size w w' := by
  have HA := Lib.hid (fun w i (hi : i ≤ 31) => in17_any w a i hi ha)
  have HB := Lib.hid (fun w i (hi : i ≤ 31) => in17_any w b i hi hb)
  have H2 := Lib.hid (fun w i (hi : i ≤ 31) => two17_any w i hi)
  have HF := Lib.hid (fun k hk => @free_bit a b k ha hb hs hk)
  have HSk := Lib.hid (fun i h => @lis_skip a (b - a) i h)
  have HTk := Lib.hid (fun i h => @lis_take a (b - a) i h)
  have HL := Lib.hid (fun i => lis_len a (b - a) i)
  have HG := Lib.hid (fun i j hj => @lis_get a (b - a) i j hj)
  have HD := Lib.hid (fun i j h hj => @dep_take (b - a) i j h hj)
  have hle := subN_le hs
  have HS := Lib.hid (fun i j => show a + depN i (b - a) j < 4294967296 by have := subN_le (dep_sub i (b - a) j); omega)
  have HM := Lib.hid (fun i (hi : i ≤ 32) => show 2 ^ cntN i (b - a) ≤ 4096 from pow12 (Nat.le_trans (cnt_mono (b - a) hi) hc))
  have H0 := Lib.hid (lis_zero a (b - a))
  have HE := Lib.hid (lis_all a b)
  clear hle hs hc
  generalize b - a = f at *
  go_enter Try.func14, Try.ntmps14
  go_wp2_with fail
  have hlit : UOwn (w.alloc (.cells #[.int .u32 (a : Int)] 22)) w.heap.size (.slice (some ⟨w.heap.size, 0, none⟩) 1 1) [a] := World.ownsRow_lit w #[.int .u32 (a : Int)] 1 (Nat.le_refl _) (by decide) rfl
  have HLit := Lib.hid hlit
  clear hlit
  go_loopw [6, 5] (fun iv ov wr => ∃ (i : Nat) (pa : Option Addr) (pn pc : Nat), i ≤ 32 ∧ iv = .int .i64 i ∧ ov = .slice pa pn pc ∧ Hid (UOwn wr w.heap.size ov (lisN a f i)) ∧ Hid (Below w.heap.size w wr)) (fun iv _ _ => 32 - (intOf iv).toNat)
  case atStart => exact ⟨0, _, _, _, by omega, rfl, rfl, Lib.hid (by rw [H0.out]; exact HLit.out), Lib.hid (below_one w _)⟩
  case round =>
    obtain ⟨i, oa, on, oc, hi, rfl, rfl, HO, HW⟩ := hrel
    by_cases hlt : i < 32
    · have hlt' : (i : Int) < 32 := by omega
      have HAi := Lib.hid (HA.out wr i (by omega))
      have HBi := Lib.hid (HB.out wr i (by omega))
      have HFi := Lib.hid (HF.out i hlt)
      by_cases hbb : b.testBit i = true
      · rw [hbb] at HBi HFi
        by_cases hab : a.testBit i = true
        · rw [hab] at HAi HFi
          have HO2 := Lib.hid (show UOwn wr w.heap.size (.slice oa on oc) (lisN a f (i + 1)) by rw [HSk.out i (by rw [HFi.out]; rfl)]; exact HO.out)
          clear hbb hab HFi HO HA HB
          go_wp2_with fail
          refine (HBi.out).mono ?_; rintro e w1 ⟨rfl, rfl⟩
          go_wp2_with fail
          refine (HAi.out).mono ?_; rintro e w1 ⟨rfl, rfl⟩
          go_wp2_with fail
          go_roundw
          case rel => exact ⟨i + 1, _, _, _, by omega, by go_num, rfl, HO2, HW⟩
          case measure => simp [intOf]; omega
        · rw [eq_false_of_ne_true hab] at HAi HFi
          have hfb : f.testBit i = true := by rw [HFi.out]; rfl
          have HX := Lib.hid (HTk.out i hfb)
          have hLl := HL.out i
          have hM := HM.out i hi
          have HGi := Lib.hid (HG.out i)
          have HDi := Lib.hid (fun j hj => HD.out i j hfb hj)
          have HSi := Lib.hid (HS.out (i + 1))
          have H2i := Lib.hid (fun w => H2.out w i (by omega))
          have hn : on = (lisN a f i).length := by
            obtain ⟨p', c', e⟩ := UOwn.form HO.out
            injection e
          clear hbb hab HFi HA HB HF HSk HTk hfb HG HD HS H2 HE H0
          generalize hLi : lisN a f i = L at *
          subst hn
          generalize 2 ^ cntN i f = N at *
          have hLN : L.length = N := hLl
          clear hLl hLi
          subst hLN
          go_wp2_with fail
          refine (HBi.out).mono ?_; rintro e w1 ⟨rfl, rfl⟩
          go_wp2_with fail
          refine (HAi.out).mono ?_; rintro e w1 ⟨rfl, rfl⟩
          go_wp2_with fail
          generalize wr = R0 at *
          go_loopw [8, 5] (fun kv ov wr => ∃ (k : Nat) (pa : Option Addr) (pn pc : Nat), k ≤ L.length ∧ kv = .int .i64 k ∧ ov = .slice pa pn pc ∧ Hid (UOwn wr w.heap.size ov (L ++ (L.map (· + 2 ^ i)).take k)) ∧ Hid (Below w.heap.size w wr)) (fun kv _ _ => L.length - (intOf kv).toNat)
          case atStart => exact ⟨0, _, _, _, Nat.zero_le _, rfl, rfl, Lib.hid (by rw [List.take_zero, List.append_nil]; exact HO.out), HW⟩
          case round =>
            obtain ⟨k, oa2, on2, oc2, hk, rfl, rfl, HO2, HW2⟩ := hrel
            by_cases hlk : k < L.length
            · have hlk' : (k : Int) < (L.length : Int) := by omega
              have hle2 : (L ++ (L.map (· + 2 ^ i)).take k).length = L.length + k := by rw [List.length_append, List.length_take, List.length_map]; omega
              obtain ⟨p', c', e'⟩ := UOwn.form HO2.out
              rw [hle2] at e'
              injection e' with e1 e2 e3
              subst e1 e2 e3
              have hat := Msk.at (UOwn.msk HO2.out) (k := k) (by rw [hle2]; omega)
              obtain ⟨bb, off, rfl, hcell⟩ := hat
              rw [app_get hlk] at hcell
              have HN := Lib.hid (map_take_next (L := L) (p := 2 ^ i) hlk)
              have hx : L.getD k 0 + 2 ^ i < 4294967296 := by
                have h1 := HGi.out k (by omega)
                have h2 := HDi.out k (by omega)
                have h3 := HSi.out (k + L.length)
                rw [h2] at h3
                rw [h1]
                omega
              have hk2 : (k : Int) < ((L.length + k : Nat) : Int) := by omega
              have HLE := Lib.hid hle2
              clear HGi HDi HSi hle2
              generalize hn2 : L.length + k = n2 at *
              have HN2 := Lib.hid hn2
              clear hn2
              generalize (L.map (· + 2 ^ i)).take k = M at *
              generalize L.getD k 0 = x at *
              generalize 2 ^ i = pw at *
              have i1 : IntKind.u32.wrap ((x : Int) + (pw : Int)) = ((x + pw : Nat) : Int) := by rw [IntKind.wrap_u32]; omega
              have i2 : ((x : Int) + (pw : Int)) % 4294967296 = ((x + pw : Nat) : Int) := by omega
              have HCw := Lib.hid (fun w => H2i.out w)
              go_upto_region 10 with fail
              go_region_law (first
                | (refine step_app17 _ (by rfl) _ _ (by rfl) w.heap.size _ _ (L ++ M) [x + pw] (by rfl) (by rfl) (UOwn.drew (HO2.out.alloc _)) (Msk.drew (one17 wr (x + pw))) (by have := HN2.out; rw [HLE.out]; simp; omega) (by have := HW2.out.size; simp; omega) ?_; intro v7 w7 hown7 hg7; have HO7 := Lib.hid hown7; have HB7 := Lib.hid ((HW2.out.alloc HW2.out.size (.cells #[.int .u32 ((x + pw : Nat) : Int)] 22)).drew.grown hg7 (by have := HW2.out.size; simp; omega) (fun j hj => (HO2.out.lt j hj).1)); obtain ⟨p7, n7, c7, rfl⟩ := UOwn.shape hown7; clear hown7 hg7)
                | (go_simp; go_at_call 25; refine (HCw.out _).mono ?_; rintro e w9 ⟨rfl, rfl⟩))
              all_goals (
                have HO8 := Lib.hid HO7.out
                rw [← HN.out] at HO8
                clear HO7 HN HO2 HW2 HCw H2i
                go_wp2_with fail
                go_roundw
                case rel => exact ⟨k + 1, _, _, _, by omega, by go_num, rfl, HO8, HB7⟩
                case measure => simp [intOf]; omega)
            · have hkl : k = L.length := by omega
              subst hkl
              have hlk' : ¬ (L.length : Int) < (L.length : Int) := by omega
              have HO8 := Lib.hid HO2.out
              rw [show (L.map (· + 2 ^ i)).take L.length = L.map (· + 2 ^ i) from List.take_of_length_le (by rw [List.length_map]; exact Nat.le_refl _), ← HX.out] at HO8
              clear HO2 HX
              go_wp2_with fail
              go_roundw
              case rel => exact ⟨i + 1, _, _, _, by omega, by go_num, rfl, HO8, HW2⟩
              case measure => simp [intOf]; omega
      · rw [eq_false_of_ne_true hbb] at HBi HFi
        have HO2 := Lib.hid (show UOwn wr w.heap.size (.slice oa on oc) (lisN a f (i + 1)) by rw [HSk.out i (by rw [HFi.out]; rfl)]; exact HO.out)
        clear hbb HFi HO HA HB
        go_wp2_with fail
        refine (HBi.out).mono ?_; rintro e w1 ⟨rfl, rfl⟩
        go_wp2_with fail
        go_roundw
        case rel => exact ⟨i + 1, _, _, _, by omega, by go_num, rfl, HO2, HW⟩
        case measure => simp [intOf]; omega
    · have e32 : i = 32 := by omega
      subst e32
      go_wp2_with fail
      go_ret
      rw [← HE.out]
      exact ⟨⟨_, rfl, UOwn.msk HO.out⟩, HW.out⟩
end Go.Proofs.Ytdopgpijbilffaa
