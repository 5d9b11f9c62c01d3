/- Layer 13: the reference's Codes, Down. -/
import Derived.Test.YtgbeedjcliajfaaKeyg
namespace Go.Proofs.Ytgbeedjcliajfaa
set_option maxRecDepth 100000
open Go.RowKit
set_option linter.unusedVariables false
theorem tail_num (d : Nat → Int) (p : Nat → Bool) (i : Nat) : ∀ j, numG d p (i + j) = numG d p i * tailG d p i j
  | 0 => by simp [tailG]
  | j + 1 => by
    have ih := tail_num d p i j
    show (if p (i + j) = true then numG d p (i + j) * d (i + j) else numG d p (i + j)) = numG d p i * (if p (i + j) = true then tailG d p i j * d (i + j) else tailG d p i j)
    split
    · rw [ih, Int.mul_assoc]
    · exact ih
theorem tail_le {ds : List (ByteArray × Int)} (hz : sizB ds = true) (m : Int) {i j : Nat} (h : i + j ≤ ds.length) : 1 ≤ tailG (dz ds) (bitG m) i j ∧ tailG (dz ds) (bitG m) i j ≤ 1099511627776 := by
  have h1 := tailG_pos (p := bitG m) (sizes_one hz) j h
  have h2 := tail_num (dz ds) (bitG m) i j
  have h3 := (keys_range m hz (i + j) h).2
  have h4 := prod_pos hz (i + j) h
  have h5 := (keys_range m hz i (by omega)).1
  rw [keys_num] at h3 h5
  have h6 := Int.mul_le_mul h5 (Int.le_refl (tailG (dz ds) (bitG m) i j)) (by omega) (by omega)
  omega
theorem codes_next (ds : List (ByteArray × Int)) (m q : Int) {k : Nat} (hk : k < ds.length) : (codesL ds m q).take k ++ [codG (dz ds) (bitG m) ds.length q k] = (codesL ds m q).take (k + 1) := by
  have hl := codes_len ds m q
  have hg := codes_get ds m q hk
  rw [List.take_add_one, List.getElem?_eq_getElem (by omega)]
  unfold cz at hg
  rw [List.getD, List.getElem?_eq_getElem (by omega)] at hg
  rw [← hg]
  rfl
theorem iown_grown {B : Nat} {w wr w1 : World} {o : Value} {l : List Int} (hB : B ≤ wr.heap.size) (hnx : Below B w wr) (hown : IOwn wr B o l) (hg : wr.grownBy w1 o.ownBlock) : Below B w w1 :=
  hnx.grown hg hB (fun k hk => (hown.lt k hk).1)
theorem set_one_drew {k : IntKind} {w : World} {x : Int} {T : TypeId} {N : Nat} (hN : w.heap.size = N) : Ints k (w.alloc (.cells #[.int k x] T)).drew (.slice (some ⟨N, 0, none⟩) 1 1) [x] := set_one hN
set_option maxHeartbeats 8000000 in
theorem rcodes_any (w : World) (D I M V : Value) (S : Sc) (m q : Int) (h : Sch4 w D I M V S) (hn : S.ds.length ≤ 31) (hz : sizB S.ds = true) (m0 : 0 ≤ m) (m1 : m ≤ 4294967295) (q0 : 0 ≤ q) (q1 : q ≤ 18446744073709551615) :
    Calls Try.prog 19 #[SchV D I M V, .int .u32 m, .int .u64 q] w (OwnB w.heap.size w (codesL S.ds m q)) := by
  obtain ⟨i0, hi, hz0, hz1, hz2⟩ := info_parts Try.infoInt
  have HB0 := Lib.hid (below_one w (SchO D I M V))
  have HX := Lib.hid (box_new w D I M V)
  have hd := h.d
  obtain ⟨⟨a, c, rfl⟩, ⟨a2, c2, rfl⟩, ⟨a3, c3, rfl⟩, a4, c4, rfl⟩ := h.slices
  obtain ⟨a', cap', e', h1, h2, h3⟩ := hd
  obtain ⟨rfl, rfl⟩ : a = a' ∧ c = cap' := by injection e' with e1 e2 e3; exact ⟨e1, e3⟩
  have HC := Lib.hid h3
  have HZ := Lib.hid (fun k (hk : k < S.ds.length) => siz_get hz hk)
  have HT := Lib.hid (fun i j (hij : i + j ≤ S.ds.length) => tail_le hz m hij)
  have HTn := Lib.hid (fun i j => show tailG (dz S.ds) (bitG m) i (j + 1) = if bitG m (i + j) = true then tailG (dz S.ds) (bitG m) i j * dz S.ds (i + j) else tailG (dz S.ds) (bitG m) i j from rfl)
  have HH := Lib.hid (fun w k hk => rin_any w m k hk m0 m1)
  have HN := Lib.hid (fun k (hk : k < S.ds.length) => codes_next S.ds m q hk)
  have HL := Lib.hid (codes_len S.ds m q)
  have HG := Lib.hid (fun i => show codG (dz S.ds) (bitG m) S.ds.length q i = if bitG m i = true then q / tailG (dz S.ds) (bitG m) (i + 1) (S.ds.length - (i + 1)) % dz S.ds i else -1 by unfold codG; rw [Nat.sub_sub])
  clear h h3 e' hz
  generalize codesL S.ds m q = L at *
  go_enter Try.func19, Try.ntmps19
  go_wp2_with fail
  generalize hW0 : w.alloc (SchO (.slice a S.ds.length c) (.slice a2 S.is.length c2) (.slice a3 S.ns.length c3) (.slice a4 S.vs.length c4)) = W0 at *
  clear hW0
  go_loopw [7, 8] (fun lv i wr => ∃ k : Nat, k ≤ S.ds.length ∧ i = .int .i64 k ∧ Hid (IOwn wr W0.heap.size lv (L.take k) ∧ Below W0.heap.size W0 wr)) (fun _ i _ => S.ds.length - (intOf i).toNat)
  case atStart => exact ⟨0, Nat.zero_le _, rfl, Lib.hid ⟨iown0 _ _, Below.refl _ _⟩⟩
  case round =>
    obtain ⟨k, hk, rfl, HS⟩ := hrel
    obtain ⟨x0, x1, x2, x3⟩ := (HX.out.below HS.out.2).reads
    by_cases hlk : k < S.ds.length
    · have hlk' : (k : Int) < (S.ds.length : Int) := by omega
      have HHk := Lib.hid (fun w => HH.out w k (by omega))
      have HNk := Lib.hid (HN.out k hlk)
      have hGk := HG.out k
      have hlen : (L.take k).length = k := by rw [List.length_take, HL.out]; omega
      have HLk := Lib.hid (show (L.take k).length ≤ 31 by omega)
      clear hlen
      obtain ⟨pa, pl, pc, rfl⟩ := own_slice3 HS.out.1
      have hsz := HS.out.2.size
      by_cases hbit : bitG m k = true
      · rcases HC.out with h3 | ⟨b, off, rfl, hlt, hcell⟩
        · rw [h3] at hlk; simp at hlk
        rw [if_pos hbit] at hGk
        rw [hbit] at HHk
        obtain ⟨c0, c1⟩ := hcell k hlk
        have HCw := Lib.hid c1
        have c1 : wr.cell? ⟨b, off + k * 2 + 1, none⟩ = _ := ((below_then HB0.out HS.out.2).cell (p := ⟨b, off + k * 2 + 1, none⟩) hlt).trans c1
        have hz := HZ.out k hlk
        generalize L.take k = L0 at *
        clear hbit c0
        go_wp2_with fail
        refine (HHk.out _).mono ?_; rintro e w1 ⟨rfl, rfl⟩
        go_wp2_with fail
        go_loopw [9, 10] (fun tv jv wx => ∃ j : Nat, j ≤ S.ds.length ∧ k + 1 ≤ j ∧ jv = .int .i64 j ∧ wr = wx ∧ ∃ t : Int, tv = .int .u64 t ∧ 1 ≤ t ∧ t ≤ 1099511627776 ∧ Hid (t = tailG (dz S.ds) (bitG m) (k + 1) (j - (k + 1)))) (fun _ jv _ => S.ds.length - (intOf jv).toNat)
        case atStart => exact ⟨k + 1, by omega, Nat.le_refl _, by go_num, rfl, 1, rfl, by decide, by decide, Lib.hid (by rw [Nat.sub_self]; rfl)⟩
        case round =>
          obtain ⟨j, hj, hkj, rfl, rfl, t, rfl, t0, t1, HE⟩ := hrel
          by_cases hlj : j < S.ds.length
          · have hlj' : (j : Int) < (S.ds.length : Int) := by omega
            have HHj := Lib.hid (fun w => HH.out w j (by omega))
            have hst := HTn.out (k + 1) (j - (k + 1))
            have e1 : k + 1 + (j - (k + 1)) = j := by omega
            have e2 : j - (k + 1) + 1 = j + 1 - (k + 1) := by omega
            rw [e1, e2, ← HE.out] at hst
            have hT := HT.out (k + 1) (j + 1 - (k + 1)) (by omega)
            obtain ⟨d0, d1⟩ := hcell j hlj
            have d1 : wr.cell? ⟨b, off + j * 2 + 1, none⟩ = _ := ((below_then HB0.out HS.out.2).cell (p := ⟨b, off + j * 2 + 1, none⟩) hlt).trans d1
            have hzj := HZ.out j hlj
            clear e1 e2 d0 hcell hGk c1 hz HNk
            generalize dz S.ds j = z at *
            by_cases hbj : bitG m j = true
            · rw [hbj] at HHj
              rw [if_pos hbj] at hst
              rw [hst] at hT
              have HE2 := Lib.hid (And.intro hst hT)
              have i1 : IntKind.u64.wrap z = z := by rw [IntKind.wrap_u64]; omega
              have i2 : IntKind.u64.wrap (t * z) = t * z := by rw [IntKind.wrap_u64]; omega
              clear hst hT hbj hzj
              go_wp2_with fail
              refine (HHj.out _).mono ?_; rintro e w1 ⟨rfl, rfl⟩
              go_wp2_with fail
              go_roundw
              case rel => exact ⟨j + 1, by omega, by omega, by go_num, by trivial, t * z, rfl, HE2.out.2.1, HE2.out.2.2, Lib.hid HE2.out.1.symm⟩
              case measure => simp [intOf]; omega
            · rw [eq_false_of_ne_true hbj] at HHj
              rw [if_neg hbj] at hst
              have HE2 := Lib.hid hst
              clear hst hT hbj hzj d1
              go_wp2_with fail
              refine (HHj.out _).mono ?_; rintro e w1 ⟨rfl, rfl⟩
              go_wp2_with fail
              go_roundw
              case rel => exact ⟨j + 1, by omega, by omega, by go_num, by trivial, t, rfl, t0, t1, Lib.hid HE2.out.symm⟩
              case measure => simp [intOf]; omega
          · have hje : j = S.ds.length := by omega
            subst hje
            rw [← HE.out] at hGk
            rw [hGk] at HNk
            clear hGk HE hcell
            have hd0 : 0 ≤ q / t := Int.ediv_nonneg q0 (by omega)
            have hd1 : q / t ≤ q := Int.ediv_le_self _ q0
            have i1 : q.tdiv t = q / t := Int.tdiv_eq_ediv_of_nonneg q0
            generalize dz S.ds k = z at *
            have i2 : (q / t).tmod z = q / t % z := Int.tmod_eq_emod_of_nonneg hd0
            have hm := Int.emod_lt_of_pos (q / t) (show 0 < z by omega)
            have hm0 := Int.emod_nonneg (q / t) (show z ≠ 0 by omega)
            have i3 : IntKind.u64.wrap (q / t) = q / t := by rw [IntKind.wrap_u64]; omega
            have i4 : IntKind.u64.wrap z = z := by rw [IntKind.wrap_u64]; omega
            have n1 : (t == 0) = false := by simp; omega
            have n2 : (z == 0) = false := by simp; omega
            have n3 : ¬ t = 0 := by omega
            have n4 : ¬ z = 0 := by omega
            generalize q / t = r at *
            generalize r % z = y at *
            have i5 : IntKind.i64.wrap y = y := IntWalk.i64_in _ (by omega)
            go_upto_region 13 with fail
            have hk : wr.drew.cell? ⟨w.heap.size, 0, none⟩ = some (.slice (some ⟨b, off, none⟩) S.ds.length c) ∧ wr.drew.cell? ⟨b, off + k * 2 + 1, none⟩ = some (.int .i64 z) := ⟨by simp [x0], by simp [c1]⟩
            clear x0 x1 x2 x3 c1
            go_region_held3 (fun w' => w'.cell? ⟨w.heap.size, 0, none⟩ = some (.slice (some ⟨b, off, none⟩) S.ds.length c) ∧ w'.cell? ⟨b, off + k * 2 + 1, none⟩ = some (.int .i64 z)) (first | (with_reducible exact hk) | exact ⟨cell_later (below_one _ _) hk.1, cell_later (below_one _ _) hk.2⟩)
              (first
                | (refine app_ints_step _ (by rfl) _ _ _ (by rfl) W0.heap.size 3 i0 (.int .i64 0) 8 Try.underlying28 hi hz0 hz1 hz2 (by rfl) .i64 _ _ L0 [y] (by rfl) (by rfl) (HS.out.1.alloc _).drew (set_one_drew rfl) (by have := HLk.out; unfold maxLen; simp; omega) (by have := HLk.out; simp; omega) (by simp; omega) ?_; intro v' w3 hown hgrow; have HQ := Lib.hid (And.intro hown (iown_grown (by simp; omega) (HS.out.2.alloc hsz _).drew (HS.out.1.alloc _).drew hgrow)); have hk := And.intro (HX.out.below HQ.out.2).reads.1 (cell_later (below_then HB0.out HQ.out.2) HCw.out); obtain ⟨pv', lv', cv', rfl⟩ := own_slice3 hown; clear hown hgrow))
            clear hk
            go_wp2_with fail
            go_roundw
            case rel => exact ⟨k + 1, by omega, by go_num, Lib.hid ⟨by rw [← HNk.out]; exact HQ.out.1, HQ.out.2⟩⟩
            case measure => simp [intOf]; omega
      · rw [eq_false_of_ne_true hbit] at HHk
        rw [if_neg hbit] at hGk
        rw [hGk] at HNk
        generalize L.take k = L0 at *
        clear hGk hbit
        go_wp2_with fail
        refine (HHk.out _).mono ?_; rintro e w1 ⟨rfl, rfl⟩
        go_wp2_with (at_builtin; refine wpList_append_want _ (by rfl) _ _ 28 rfl W0.heap.size 3 i0 (.int .i64 0) 8 Try.underlying28 hi hz0 hz1 hz2 rfl .i64 _ _ L0 [-1] rfl rfl (HS.out.1.alloc _) (set_one rfl) (by have := HLk.out; unfold maxLen; simp; omega) (by have := HLk.out; simp; omega) (by simp; omega) ?_; intro v' w1 hown hgrow; have HQ := Lib.hid (And.intro hown (iown_grown (by simp; omega) (HS.out.2.alloc hsz _) (HS.out.1.alloc _) hgrow)); obtain ⟨pv', lv', cv', rfl⟩ := own_slice3 hown; clear hown hgrow)
        go_roundw
        case rel => exact ⟨k + 1, by omega, by go_num, Lib.hid ⟨by rw [← HNk.out]; exact HQ.out.1, HQ.out.2⟩⟩
        case measure => simp [intOf]; omega
    · have hke : k = S.ds.length := by omega
      subst hke
      have HS2 := HS.out
      rw [List.take_of_length_le (by rw [HL.out]; omega)] at HS2
      have HS3 := Lib.hid HS2
      clear HS HS2
      obtain ⟨pa, pl, pc, rfl⟩ := own_slice3 HS3.out.1
      go_wp2_with fail
      go_ret
      exact ⟨⟨_, rfl, iown_mono HS3.out.1 HB0.out.size⟩, below_then HB0.out HS3.out.2⟩
end Go.Proofs.Ytgbeedjcliajfaa
