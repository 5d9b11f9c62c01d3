/- Contracts that the law leans on, pruned and merged: Schk Keya. -/
import Derived.Test.YtigikgphipebiaaGreatDoorRi28
/- Layer 11: the reference's Check. -/
namespace Go.Proofs.YtigikgphipebiaaGreatDoor
set_option maxRecDepth 100000
open Go.RowKit
set_option linter.unusedVariables false
theorem step_append_strs {P : Program} (w : World) {ops : Array Oper} {o : Oper} {a : Act} {K : Act → World → Prop} {Q : Exit → Act → World → Prop} {E : Prop} (hgd : o.guard = none) (s x : Operand) (t : TypeId)
    (ho : o.op = .call { callee := .builtin .append, args := #[s, x], argTypes := #[t, t] })
    (base : Nat) (e : TypeId) (i : TypeInfo) (z : Value) (bytes : Nat) (ht : P.underlying t = some (.slice e)) (hi : P.info? e = some i) (hz : i.zero = some z) (hsize : i.size = 1) (hby : i.bytes = bytes) (hzs : z.cells.size = 1)
    (v v2 : Value) (zs ns : List ByteArray) (hs : a.eval s = v) (hx : a.eval x = v2) (hown : w.ownsRow base e 1 v zs.length (zs.map Value.string)) (hv2 : Strs w v2 ns) (h63 : zs.length + ns.length ≤ maxLen) (hbytes : (zs.length + ns.length) * bytes ≤ 140737488355328) (hbase : base ≤ w.heap.size)
    (h : ∀ v' w', w'.ownsRow base e 1 v' (zs ++ ns).length ((zs ++ ns).map Value.string) → w.grownBy w' v.ownBlock → K (a.put o.dst v') w') :
    if Region.wanted o (yielded ops a.tmps) = true then Oper.wp P o a w K Q else E := by
  have hw : Region.wanted o (yielded ops a.tmps) = true := by simp [Region.wanted, hgd]
  rw [if_pos hw]
  obtain ⟨v', w', hrun, r1, r2⟩ := run_append_strs (P := P) w base t o.type e i z bytes ht hi hz hsize hby hzs v v2 zs ns hown hv2 h63 hbytes hbase
  unfold Oper.wp
  simp [execOp, ho, resolve, invoke, builtin, hs, hx, hrun, Result.andThen]
  exact h v' w' r1 r2
theorem names_app (S : Sc) : (S.ds.map Prod.fst ++ S.is) ++ S.ns = namesL S := rfl
theorem sown_mono {w : World} {B B' E n : Nat} {v : Value} {xs : List Value} (h : w.ownsRow B E 1 v n xs) (hb : B' ≤ B) : w.ownsRow B' E 1 v n xs := by
  refine ⟨h.1, ?_⟩
  rcases h.2 with h0 | ⟨g, cap, cur, h1, h2, h3⟩
  · exact .inl h0
  · exact .inr ⟨g, cap, cur, h1, Nat.le_trans hb h2, h3⟩
set_option maxHeartbeats 4000000 in
theorem rnames_any (w : World) (D I M V : Value) (S : Sc) (h : Sch4 w D I M V S) (hn : S.ds.length ≤ 100 ∧ S.is.length ≤ 100 ∧ S.ns.length ≤ 100) :
    Calls Tryz.prog 31 #[SchV D I M V] w (MadeS w.heap.size w (namesL S)) := by
  obtain ⟨i0, hi, hz0, hz1, hz2⟩ := info_parts Tryz.infoStr
  have HB0 := Lib.hid (below_one w (SchO D I M V))
  have HX := Lib.hid (box_new w D I M V)
  have HH := Lib.hid h
  have hd := h.d
  obtain ⟨⟨a, c, rfl⟩, ⟨a2, c2, rfl⟩, ⟨a3, c3, rfl⟩, a4, c4, rfl⟩ := h.slices
  obtain ⟨a', cap', e', h1, h2, h3⟩ := hd
  obtain ⟨rfl, rfl⟩ : a = a' ∧ c = cap' := by injection e' with e1 e2 e3; exact ⟨e1, e3⟩
  have HC := Lib.hid h3
  have HT := Lib.hid (fun k (hk : k < S.ds.length) => show ((S.ds.take k).map Prod.fst) ++ [dn S.ds k] = (S.ds.take (k + 1)).map Prod.fst by rw [List.take_add_one, List.getElem?_eq_getElem hk, dn_get hk, List.map_append]; rfl)
  have HL := Lib.hid (fun k => show ((S.ds.take k).map Prod.fst).length ≤ 100 by simp; omega)
  have HE := Lib.hid (show (S.ds.take S.ds.length).map Prod.fst = S.ds.map Prod.fst by rw [List.take_length])
  have HN := Lib.hid (names_app S)
  have HDl := Lib.hid (show (S.ds.map Prod.fst).length ≤ 100 by simp; omega)
  clear h h3 e'
  go_enter Tryz.func31, Tryz.ntmps31
  go_wp2_with fail
  generalize hW0 : w.alloc (SchO (.slice a S.ds.length c) (.slice a2 S.is.length c2) (.slice a3 S.ns.length c3) (.slice a4 S.vs.length c4)) = W0 at *
  go_loopw [3, 4] (fun lv i wr => ∃ k : Nat, k ≤ S.ds.length ∧ i = .int .i64 k ∧ Hid (SOwn wr W0.heap.size lv ((S.ds.take k).map Prod.fst) ∧ Below W0.heap.size W0 wr)) (fun _ i _ => S.ds.length - (intOf i).toNat)
  case atStart => exact ⟨0, Nat.zero_le _, rfl, Lib.hid ⟨sown0 _ _, Below.refl _ _⟩⟩
  case round =>
    obtain ⟨k, hk, rfl, HS⟩ := hrel
    obtain ⟨x0, x1, x2, x3⟩ := (HX.out.below HS.out.2).reads
    by_cases hlk : k < S.ds.length
    · have hlk' : (k : Int) < (S.ds.length : Int) := by omega
      rcases HC.out with h3 | ⟨b, off, rfl, hlt, hc⟩
      · rw [h3] at hlk; simp at hlk
      obtain ⟨c0, c1⟩ := hc k hlk
      have c0 : wr.cell? ⟨b, off + k * 2, none⟩ = _ := ((below_then HB0.out HS.out.2).cell (p := ⟨b, off + k * 2, none⟩) hlt).trans c0
      have HTk := Lib.hid (HT.out k hlk)
      have HLk := Lib.hid (HL.out k)
      clear hc c1
      generalize dn S.ds k = x at *
      generalize (S.ds.take k).map Prod.fst = L at *
      obtain ⟨pa, pl, pc, rfl⟩ := own_slice3 HS.out.1
      have hsz := HS.out.2.size
      go_wp2_with (at_builtin; refine wpList_append_strs _ (by rfl) _ _ 23 rfl W0.heap.size 9 i0 (.string ⟨#[]⟩) 16 Tryz.underlying23 hi hz0 hz1 hz2 rfl _ _ L [x] rfl rfl (HS.out.1.alloc _) (strs_one rfl) (by have := HLk.out; unfold maxLen; simp; omega) (by have := HLk.out; simp; omega) (by simp; omega) ?_; intro v' w1 hown hgrow; have HQ := Lib.hid (And.intro hown (sown_grown (HS.out.2.alloc hsz _) (by simp; omega) (HS.out.1.alloc _) hgrow)); obtain ⟨pv', lv', cv', rfl⟩ := own_slice3 hown; clear hown hgrow)
      go_roundw
      case rel => exact ⟨k + 1, by omega, by go_num, Lib.hid ⟨by rw [← HTk.out]; exact HQ.out.1, HQ.out.2⟩⟩
      case measure => simp [intOf]; omega
    · have hke : k = S.ds.length := by omega
      subst hke
      have HS2 := HS.out
      rw [HE.out] at HS2
      have HS3 := Lib.hid HS2
      clear HS2
      have HLs := Lib.hid (show (S.ds.map Prod.fst ++ S.is).length ≤ 200 by have := HDl.out; rw [List.length_append]; omega)
      generalize S.ds.map Prod.fst = L at *
      obtain ⟨pa, pl, pc, rfl⟩ := own_slice3 HS3.out.1
      go_upto_region 6 with fail
      have hk : wr.drew.cell? ⟨w.heap.size, 0, none⟩ = some (.slice a S.ds.length c) ∧ wr.drew.cell? ⟨w.heap.size, 1, none⟩ = some (.slice a2 S.is.length c2) ∧ wr.drew.cell? ⟨w.heap.size, 2, none⟩ = some (.slice a3 S.ns.length c3) ∧ wr.drew.cell? ⟨w.heap.size, 3, none⟩ = some (.slice a4 S.vs.length c4) := ⟨by simp [x0], by simp [x1], by simp [x2], by simp [x3]⟩
      have hBw : Below W0.heap.size W0 wr.drew := HS3.out.2.drew
      have hO : SOwn wr.drew W0.heap.size (.slice pa pl pc) L := HS3.out.1.drew
      clear x0 x1 x2 x3
      go_region_held3 (fun w' => w'.cell? ⟨w.heap.size, 0, none⟩ = some (.slice a S.ds.length c) ∧ w'.cell? ⟨w.heap.size, 1, none⟩ = some (.slice a2 S.is.length c2) ∧ w'.cell? ⟨w.heap.size, 2, none⟩ = some (.slice a3 S.ns.length c3) ∧ w'.cell? ⟨w.heap.size, 3, none⟩ = some (.slice a4 S.vs.length c4)) (with_reducible exact hk)
        (first
          | (refine step_append_strs _ (by rfl) _ _ _ (by rfl) W0.heap.size 9 i0 (.string ⟨#[]⟩) 16 Tryz.underlying23 hi hz0 hz1 hz2 (by rfl) _ _ L S.is (by rfl) (by rfl) hO (HH.out.i.below (below_then HB0.out hBw)) (by have := HDl.out; unfold maxLen; omega) (by have := HDl.out; omega) hBw.size ?_; intro v' w3 hown hgrow; have hO2 := hown; have hBw2 := sown_grown hBw hBw.size hO hgrow; have hk := quad_hold hBw2 (HX.out.reads); obtain ⟨pv', lv', cv', rfl⟩ := own_slice3 hown; clear hown hgrow)
          | (refine step_append_strs _ (by rfl) _ _ _ (by rfl) W0.heap.size 9 i0 (.string ⟨#[]⟩) 16 Tryz.underlying23 hi hz0 hz1 hz2 (by rfl) _ _ (L ++ S.is) S.ns (by rfl) (by rfl) hO2 (HH.out.n.below (below_then HB0.out hBw2)) (by have := HLs.out; unfold maxLen; omega) (by have := HLs.out; omega) hBw2.size ?_; intro v' w3 hown hgrow; have HQ := Lib.hid (And.intro hown (sown_grown hBw2 hBw2.size hO2 hgrow)); have hk := quad_hold HQ.out.2 (HX.out.reads); obtain ⟨pv', lv', cv', rfl⟩ := own_slice3 hown; clear hown hgrow))
      clear hk hO hO2
      go_wp2_with fail
      go_ret
      refine ⟨⟨_, rfl, ?_⟩, below_then HB0.out HQ.out.2⟩
      rw [← HN.out]
      exact sown_mono HQ.out.1 HB0.out.size
set_option maxRecDepth 100000
open Go.RowKit
set_option linter.unusedVariables false
set_option maxHeartbeats 4000000 in
theorem rkeys_any (w : World) (D I M V : Value) (S : Sc) (m : Int) (h : Sch4 w D I M V S) (hn : S.ds.length ≤ 6) (hz : sizB S.ds = true) (m0 : 0 ≤ m) (m1 : m ≤ 4294967295) :
    Calls Tryz.prog 66 #[SchV D I M V, .int .u32 m] w fun e w' => e = .returned (.int .u64 (keysL S.ds m S.ds.length)) ∧ Below w.heap.size w w' := by
  have HB0 := Lib.hid (below_one w (SchO D I M V))
  have HX := Lib.hid (box_new w D I M V)
  have hd := h.d
  obtain ⟨⟨a, c, rfl⟩, ⟨a2, c2, rfl⟩, ⟨a3, c3, rfl⟩, a4, c4, rfl⟩ := h.slices
  obtain ⟨a', cap', e', h1, h2, h3⟩ := hd
  obtain ⟨rfl, rfl⟩ : a = a' ∧ c = cap' := by injection e' with e1 e2 e3; exact ⟨e1, e3⟩
  have HC := Lib.hid h3
  have HKn := Lib.hid (fun k => show keysL S.ds m (k + 1) = if m / 2 ^ k % 2 = 1 then keysL S.ds m k * dz S.ds k else keysL S.ds m k from rfl)
  have HR := Lib.hid (fun k hk => And.intro (keys_range m hz k hk) (prod_pos hz k hk))
  have HZ := Lib.hid (fun k (hk : k < S.ds.length) => siz_get hz hk)
  have HI := Lib.hid (fun w k (hk : k ≤ 31) => in_any w m k hk m0 m1)
  clear h h3 e' hz
  go_enter Tryz.func66, Tryz.ntmps66
  go_wp2_with fail
  generalize hW0 : w.alloc (SchO (.slice a S.ds.length c) (.slice a2 S.is.length c2) (.slice a3 S.ns.length c3) (.slice a4 S.vs.length c4)) = W0 at *
  go_loopw [5, 6] (fun pv i wr => ∃ k : Nat, k ≤ S.ds.length ∧ i = .int .i64 k ∧ W0 = wr ∧ ∃ p : Int, pv = .int .u64 p ∧ 1 ≤ p ∧ p ≤ 1099511627776 ∧ Hid (p = keysL S.ds m k)) (fun _ i _ => S.ds.length - (intOf i).toNat)
  case atStart => exact ⟨0, Nat.zero_le _, rfl, rfl, 1, rfl, by decide, by decide, Lib.hid rfl⟩
  case round =>
    obtain ⟨k, hk, rfl, rfl, p, rfl, hp0, hp1, HE⟩ := hrel
    obtain ⟨x0, x1, x2, x3⟩ := HX.out.reads
    by_cases hlk : k < S.ds.length
    · have hlk' : (k : Int) < (S.ds.length : Int) := by omega
      have HIk := Lib.hid (HI.out W0 k (by omega))
      have HKk := Lib.hid (HKn.out k)
      rw [← HE.out] at HKk
      by_cases hbit : m / 2 ^ k % 2 = 1
      · rcases HC.out with h3 | ⟨b, off, rfl, hlt, hc⟩
        · rw [h3] at hlk; simp at hlk
        obtain ⟨c0, c1⟩ := hc k hlk
        have c1 : W0.cell? ⟨b, off + k * 2 + 1, none⟩ = _ := (HB0.out.cell (p := ⟨b, off + k * 2 + 1, none⟩) hlt).trans c1
        have hz := HZ.out k hlk
        have hr := HR.out (k + 1) (by omega)
        have hq := prod_step hp0 hp1 hz.1 hz.2.1
        have HRk := Lib.hid (show 1 ≤ keysL S.ds m (k + 1) ∧ keysL S.ds m (k + 1) ≤ 1099511627776 by omega)
        generalize dz S.ds k = z at *
        have i1 : IntKind.u64.wrap z = z := by rw [IntKind.wrap_u64]; omega
        have i2 : IntKind.u64.wrap (p * z) = p * z := by rw [IntKind.wrap_u64]; omega
        have HE3 := Lib.hid hq
        rw [decide_eq_true hbit] at HIk
        rw [if_pos hbit] at HKk
        clear hr hz hq hbit hc c0
        go_wp2_with fail
        refine (HIk.out).mono ?_; rintro e w1 ⟨rfl, rfl⟩
        go_wp2_with fail
        go_roundw
        case rel => exact ⟨k + 1, by omega, by go_num, by trivial, p * z, rfl, HE3.out.1, by rw [← HKk.out]; exact HRk.out.2, Lib.hid HKk.out.symm⟩
        case measure => simp [intOf]; omega
      · rw [decide_eq_false hbit] at HIk
        rw [if_neg hbit] at HKk
        clear hbit
        go_wp2_with fail
        refine (HIk.out).mono ?_; rintro e w1 ⟨rfl, rfl⟩
        go_wp2_with fail
        go_roundw
        case rel => exact ⟨k + 1, by omega, by go_num, by trivial, p, rfl, hp0, hp1, Lib.hid HKk.out.symm⟩
        case measure => simp [intOf]; omega
    · have : k = S.ds.length := by omega
      subst this
      have HE2 := Lib.hid HE.out
      clear HE
      go_wp2_with fail
      go_ret
      rw [HE2.out]
      exact ⟨rfl, HB0.out⟩
def AnyB (e : Ending) : Prop := ∃ b, e = .returned (.bool b)
set_option maxHeartbeats 4000000 in
theorem slight_any (w : World) (D I M V : Value) (S : Sc) (h : Sch4 w D I M V S) :
    Calls Tryz.prog 8 #[SchV D I M V] w fun e w' => AnyB e ∧ Below w.heap.size w w' := by
  have HB0 := Lib.hid (below_one w (SchO D I M V))
  have HX := Lib.hid (box_new w D I M V)
  have HN := Lib.hid (fun w1 (hb : Below w.heap.size w w1) hn => rnames_any w1 D I M V S (h.below hb) hn)
  obtain ⟨⟨a, c, rfl⟩, ⟨a2, c2, rfl⟩, ⟨a3, c3, rfl⟩, a4, c4, rfl⟩ := h.slices
  by_cases hl : S.ds.length ≤ 100 ∧ S.is.length ≤ 100 ∧ S.ns.length ≤ 100 ∧ S.vs.length ≤ 100
  · obtain ⟨l1, l2, l3, l4⟩ := hl
    have k1 : ¬ (100 : Int) < (S.ds.length : Int) := by omega
    have k2 : ¬ (100 : Int) < (S.is.length : Int) := by omega
    have k3 : ¬ (100 : Int) < (S.ns.length : Int) := by omega
    have k4 : ¬ (100 : Int) < (S.vs.length : Int) := by omega
    clear h
    go_enter Tryz.func8, Tryz.ntmps8
    go_wp2_with fail
    refine (HN.out _ HB0.out ⟨l1, l2, l3⟩).mono ?_; rintro e w1 ⟨⟨v, rfl, hv⟩, hb⟩
    have HS := Lib.hid (Strs.own hv)
    have HB1 := Lib.hid (below_then HB0.out hb)
    obtain ⟨pa, pl, pc, rfl⟩ := own_slice3 hv
    clear hv hb
    generalize namesL S = Z at *
    obtain ⟨a', cap', e', h1, h2, h3⟩ := HS.out
    injection e' with e1 e2 e3
    subst e1 e2 e3
    have HC := Lib.hid h3
    clear h3
    go_wp2_with fail
    go_loopw [4] (fun i wr => ∃ k : Nat, k ≤ Z.length ∧ i = .int .i64 k ∧ w1 = wr) (fun i _ => Z.length - (intOf i).toNat)
    case atStart => exact ⟨0, Nat.zero_le _, rfl, rfl⟩
    case round =>
      obtain ⟨k, hk, rfl, rfl⟩ := hrel
      by_cases hlk : k < Z.length
      · have hlk' : (k : Int) < (Z.length : Int) := by omega
        rcases HC.out with h3 | ⟨b, off, rfl, hlt, hc⟩
        · rw [h3] at hlk; simp at hlk
        have hx := hc k hlk
        generalize txt Z k = x at *
        clear hc
        by_cases hs : (100 : Int) < (x.size : Int)
        · go_wp2_with fail
          go_ret
          exact ⟨⟨_, rfl⟩, HB1.out⟩
        · go_wp2_with fail
          go_roundw
          case rel => exact ⟨k + 1, by omega, by go_num, by trivial⟩
          case measure => simp [intOf]; omega
      · have : k = Z.length := by omega
        subst this
        go_wp2_with fail
        go_ret
        exact ⟨⟨_, rfl⟩, HB1.out⟩
  · clear h
    go_enter Tryz.func8, Tryz.ntmps8
    go_wp2
    all_goals first
      | (exfalso; omega)
      | (go_ret; exact ⟨⟨_, rfl⟩, HB0.out⟩)
set_option maxRecDepth 100000
open Go.RowKit
set_option linter.unusedVariables false
set_option maxHeartbeats 8000000 in
theorem rcheck_any (w : World) (D I M V : Value) (S : Sc) (h : Sch4 w D I M V S) (hw : SWf S) :
    Calls Tryz.prog 12 #[SchV D I M V] w fun e w' => e = .returned (.int .i64 (checkL S)) ∧ Below w.heap.size w w' := by
  have HE := Lib.hid (show checkL S = if cntB S = false then 3 else if goodN (namesL S) = false then 8 else if 0 ≤ twiceL (namesL S) then 9 else if sizB S.ds = false then 2 else if vieB (fullL S.ds) S.vs = false then 6 else 0 from rfl)
  have HB0 := Lib.hid (below_one w (SchO D I M V))
  have HX := Lib.hid (box_new w D I M V)
  have HH := Lib.hid h
  have HW := Lib.hid hw
  have HN := Lib.hid (fun w1 (hb : Below w.heap.size w w1) hn => rnames_any w1 D I M V S (h.below hb) hn)
  obtain ⟨⟨a, c, rfl⟩, ⟨a2, c2, rfl⟩, ⟨a3, c3, rfl⟩, a4, c4, rfl⟩ := h.slices
  by_cases hc : cntB S = true
  · obtain ⟨l0, l1, l2, l3, l4⟩ := cnt_iff.1 hc
    have k0 : ¬ (S.ds.length : Int) < 1 := by omega
    have k1 : ¬ (6 : Int) < (S.ds.length : Int) := by omega
    have k2 : ¬ (3 : Int) < (S.is.length : Int) := by omega
    have k3 : ¬ (2 : Int) < (S.ns.length : Int) := by omega
    have k4 : ¬ (15 : Int) < (S.vs.length : Int) := by omega
    have hnl := names_len hc
    rw [hc] at HE
    have HIs := Lib.hid (fun k (hk : k < (namesL S).length) wr => ris_any (txt (namesL S) k) wr (by rw [txt_get hk]; exact names_max HW.out _ (List.getElem_mem hk)))
    have HT := Lib.hid (fun v w' (hs : Strs w' v (namesL S)) => rtwice_any v (namesL S) w' hs)
    have HG0 := Lib.hid (@goodN_good (namesL S))
    have HG1 := Lib.hid (fun k => @goodN_bad (namesL S) k)
    have HZ0 := Lib.hid (@siz_good S.ds)
    have HZ1 := Lib.hid (fun k => @siz_bad S.ds k)
    have HP := Lib.hid (fun k => @prod_next S.ds k)
    have HWz := Lib.hid (fun k (hk : k < S.ds.length) => show -9223372036854775808 ≤ dz S.ds k ∧ dz S.ds k ≤ 9223372036854775807 by rw [dz_get hk]; exact (hw.d _ (List.getElem_mem hk)).2)
    have HV0 := Lib.hid (@vie_good (fullL S.ds) S.vs)
    have HV1 := Lib.hid (fun k => @vie_bad (fullL S.ds) S.vs k)
    have HVd := Lib.hid (fun k => show vieAt (fullL S.ds) S.vs k = (decide (S.vs.getD k 0 < fullL S.ds) && (decide (k = 0) || decide (S.vs.getD (k - 1) 0 < S.vs.getD k 0))) from rfl)
    have HWv := Lib.hid (fun k (hk : k < S.vs.length) => show 0 ≤ S.vs.getD k 0 ∧ S.vs.getD k 0 ≤ 4294967295 by
      have : S.vs.getD k 0 = S.vs[k] := by simp [List.getD, hk]
      rw [this]; exact hw.v _ (List.getElem_mem hk))
    have HTw := Lib.hid (fun w => two_any w S.ds.length (by omega))
    have HSu := Lib.hid (fun w x h0 h1 => (ssub_any w x S.ds.length l1 h0 h1).mono fun e w' h => show e = .returned (.bool (decide (x < 2 ^ S.ds.length))) ∧ ∃ m, w' = w.drewN m from ⟨h.1, 0, h.2.symm⟩)
    have hf := full_wrap l1
    have hfe : fullL S.ds = 2 ^ S.ds.length - 1 := rfl
    generalize (2 : Int) ^ S.ds.length = p2 at *
    rw [hfe] at HE HV0 HV1 HVd
    have hf0 : IntKind.u32.wrap (p2 - 1) = p2 - 1 := by rw [IntKind.wrap_u32]; exact hf.1
    generalize hfu : p2 - 1 = fu at *
    obtain rfl : p2 = fu + 1 := by omega
    clear hfu hfe h hw hc
    have HD := Lib.hid HH.out.d
    have HVs := Lib.hid HH.out.v
    generalize goodN (namesL S) = g at *
    generalize twiceL (namesL S) = tw at *
    generalize sizB S.ds = sz at *
    generalize vieB fu S.vs = vi at *
    go_enter Tryz.func12, Tryz.ntmps12
    go_wp2_with fail
    refine (HN.out _ HB0.out ⟨by omega, by omega, by omega⟩).mono ?_; rintro e w1 ⟨⟨v, rfl, hv⟩, hb⟩
    have HS := Lib.hid (Strs.own hv)
    have HB1 := Lib.hid hb
    obtain ⟨pa, pl, pc, rfl⟩ := own_slice3 hv
    clear hv hb k0 k1 k2 k3 k4
    generalize hW0 : w.alloc (SchO (.slice a S.ds.length c) (.slice a2 S.is.length c2) (.slice a3 S.ns.length c3) (.slice a4 S.vs.length c4)) = W0 at *
    generalize namesL S = Z at *
    have hS := HS.out
    obtain ⟨a', cap', e', h1, h2, h3⟩ := hS
    injection e' with e1 e2 e3
    subst e1 e2 e3
    have HC := Lib.hid h3
    clear h3
    go_wp2_with fail
    go_loopw [4] (fun i wr => ∃ k : Nat, k ≤ Z.length ∧ i = .int .i64 k ∧ Hid (Below w1.heap.size w1 wr) ∧ Hid (∀ j, j < k → nameB (txt Z j) = true)) (fun i _ => Z.length - (intOf i).toNat)
    case atStart => exact ⟨0, Nat.zero_le _, rfl, Lib.hid (Below.refl _ _), Lib.hid (fun j hj => by omega)⟩
    case round =>
      obtain ⟨k, hk, rfl, HB, HJ⟩ := hrel
      by_cases hlk : k < Z.length
      · have hlk' : (k : Int) < (Z.length : Int) := by omega
        rcases HC.out with h3 | ⟨b, off, rfl, hlt, hcc⟩
        · rw [h3] at hlk; simp at hlk
        have hx : wr.cell? ⟨b, off + k, none⟩ = some (.string (txt Z k)) := (HB.out.cell (p := ⟨b, off + k, none⟩) hlt).trans (hcc k hlk)
        have HIk := Lib.hid (HIs.out k hlk)
        have HGk := Lib.hid (fun q => HG1.out k hlk q)
        have HQ := Lib.hid (fun q : nameB (txt Z k) = true => fun j (hj : j < k + 1) => if e : j = k then (e ▸ q : nameB (txt Z j) = true) else HJ.out j (by omega))
        clear hcc
        generalize nameB (txt Z k) = t at *
        generalize txt Z k = x at *
        go_wp2_with fail
        refine (HIk.out _).mono ?_; rintro e w2 ⟨rfl, hb⟩
        have HB2 := Lib.hid (below_then HB.out hb)
        clear hb
        cases t with
        | true =>
          have HQ2 := Lib.hid (HQ.out rfl)
          go_wp2_with fail
          go_roundw
          case rel => exact ⟨k + 1, by omega, by go_num, HB2, HQ2⟩
          case measure => simp [intOf]; omega
        | false =>
          have HR := Lib.hid (HGk.out rfl)
          go_wp2_with fail
          go_ret
          refine ⟨?_, below_then HB0.out (below_then HB1.out HB2.out)⟩
          rw [HE.out, HR.out]; rfl
      · have : k = Z.length := by omega
        subst this
        have HGt := Lib.hid (HG0.out HJ.out)
        have HS2 := Lib.hid (HS.out.below HB.out)
        have HB2 := Lib.hid (below_then HB1.out HB.out)
        clear HJ HB
        go_wp2_with fail
        refine (HT.out _ _ HS2.out).mono ?_; rintro e w2 ⟨rfl, hd⟩
        have HB3 := Lib.hid (below_then HB2.out hd.below)
        clear hd
        by_cases ht : 0 ≤ tw
        · go_wp2_with fail
          go_ret
          refine ⟨?_, below_then HB0.out HB3.out⟩
          rw [HE.out, HGt.out, if_neg (by decide), if_neg (by decide), if_pos ht]; rfl
        · have HE2 := Lib.hid (show checkL S = if sz = false then 2 else if vi = false then 6 else 0 by rw [HE.out, HGt.out, if_neg (by decide), if_neg (by decide), if_neg ht])
          clear HE
          have HX2 := Lib.hid (HX.out.below HB3.out)
          have HD2 := Lib.hid (HD.out.below (below_then HB0.out HB3.out))
          have HV2 := Lib.hid (HVs.out.below (below_then HB0.out HB3.out))
          clear HC HIs HT HG0 HG1 HS HS2 HN HX HD HVs HH HB2 hlk hk h1 h2
          obtain ⟨x0, x1, x2, x3⟩ := HX2.out.reads
          have hD := HD2.out
          obtain ⟨a', cap', e', h1, h2, h3⟩ := hD
          injection e' with e1 e2 e3
          subst e1 e3
          have HC := Lib.hid h3
          clear h3 e2
          go_wp2_with fail
          go_loopw [5, 6] (fun pv i wr => ∃ k : Nat, k ≤ S.ds.length ∧ i = .int .i64 k ∧ w2 = wr ∧ (∃ p : Int, pv = .int .i64 p ∧ 1 ≤ p ∧ p ≤ 1099511627776 ∧ Hid (p = prodL (S.ds.take k))) ∧ Hid (∀ j, j < k → sizAt S.ds j = true)) (fun _ i _ => S.ds.length - (intOf i).toNat)
          case atStart => exact ⟨0, Nat.zero_le _, rfl, rfl, ⟨1, rfl, by decide, by decide, Lib.hid rfl⟩, Lib.hid (fun j hj => by omega)⟩
          case round =>
            obtain ⟨k, hk, rfl, rfl, ⟨p, rfl, hp0, hp1, HPe⟩, HJ⟩ := hrel
            by_cases hlk : k < S.ds.length
            · have hlk' : (k : Int) < (S.ds.length : Int) := by omega
              rcases HC.out with h3 | ⟨b, off, rfl, hlt, hcc⟩
              · rw [h3] at hlk; simp at hlk
              obtain ⟨c0, c1⟩ := hcc k hlk
              have HHk := Lib.hid (fun q => HZ1.out k hlk q)
              have HQ := Lib.hid (fun q : sizAt S.ds k = true => fun j (hj : j < k + 1) => if e : j = k then (e ▸ q : sizAt S.ds j = true) else HJ.out j (by omega))
              have HSk := Lib.hid (show sizAt S.ds k = (decide (1 ≤ dz S.ds k) && decide (dz S.ds k ≤ 4096) && decide (p * dz S.ds k ≤ 1099511627776)) by unfold sizAt; rw [HP.out k hlk, ← HPe.out])
              have HE1 := Lib.hid (show p * dz S.ds k = prodL (S.ds.take (k + 1)) by rw [HP.out k hlk, ← HPe.out])
              have hW := HWz.out k hlk
              clear c0 hcc
              generalize dz S.ds k = z at *
              generalize sizAt S.ds k = t at *
              by_cases z1 : z < 1
              · have HR := Lib.hid (HHk.out (by rw [HSk.out, decide_eq_false (p := 1 ≤ z) (by omega)]; rfl))
                clear hW
                go_wp2_with fail
                go_ret
                refine ⟨?_, below_then HB0.out HB3.out⟩
                rw [HE2.out, HR.out]; rfl
              · by_cases z2 : 4096 < z
                · have HR := Lib.hid (HHk.out (by rw [HSk.out, decide_eq_false (p := z ≤ 4096) (by omega)]; simp))
                  clear hW
                  go_wp2_with fail
                  go_ret
                  refine ⟨?_, below_then HB0.out HB3.out⟩
                  rw [HE2.out, HR.out]; rfl
                · have hq := prod_step hp0 hp1 (by omega : 1 ≤ z) (by omega)
                  have i2 : IntKind.i64.wrap (p * z) = p * z := IntWalk.i64_in _ (by omega)
                  by_cases z3 : 1099511627776 < p * z
                  · have HR := Lib.hid (HHk.out (by rw [HSk.out, decide_eq_false (p := p * z ≤ 1099511627776) (by omega)]; simp))
                    clear hW
                    go_wp2_with fail
                    go_ret
                    refine ⟨?_, below_then HB0.out HB3.out⟩
                    rw [HE2.out, HR.out]; rfl
                  · have HQ2 := Lib.hid (HQ.out (by rw [HSk.out]; simp; omega))
                    clear hW
                    go_wp2_with fail
                    go_roundw
                    case rel => exact ⟨k + 1, by omega, by go_num, by trivial, ⟨p * z, rfl, by omega, by omega, HE1⟩, HQ2⟩
                    case measure => simp [intOf]; omega
            · have : k = S.ds.length := by omega
              have HR := Lib.hid (HZ0.out (by rw [← this]; exact HJ.out))
              have hlk' : ¬ (k : Int) < (S.ds.length : Int) := by omega
              have HE3 := Lib.hid (show checkL S = if vi = false then 6 else 0 by rw [HE2.out, HR.out]; rfl)
              clear this HJ HE2 HZ0 HZ1 HP HWz HC HPe
              go_wp2_with fail
              refine (HTw.out _).mono ?_; rintro e w3 ⟨rfl, rfl⟩
              have hV := HV2.out
              obtain ⟨a', cap', e', h4, h3⟩ := hV
              injection e' with e1 e2 e3
              subst e1 e3
              have HC := Lib.hid h3
              clear h3 e2 hlk hlk' hk
              go_wp2_with fail
              go_loopw [9] (fun i wr => ∃ k : Nat, k ≤ S.vs.length ∧ i = .int .i64 k ∧ Hid (Below w2.heap.size w2 wr) ∧ Hid (∀ j, j < k → vieAt fu S.vs j = true)) (fun i _ => S.vs.length - (intOf i).toNat)
              case atStart => exact ⟨0, Nat.zero_le _, rfl, Lib.hid (Below.refl _ _), Lib.hid (fun j hj => by omega)⟩
              case round =>
                obtain ⟨k, hk, rfl, HB, HJ⟩ := hrel
                obtain ⟨y0, y1, y2, y3⟩ := (HX2.out.below HB.out).reads
                clear x0 x1 x2 x3
                by_cases hlk : k < S.vs.length
                · have hlk' : (k : Int) < (S.vs.length : Int) := by omega
                  rcases HC.out with h3 | ⟨b, off, rfl, hlt, hcc⟩
                  · rw [h3] at hlk; simp at hlk
                  have hx : wr.cell? ⟨b, off + k, none⟩ = some (.int .u32 (S.vs.getD k 0)) := (HB.out.cell (p := ⟨b, off + k, none⟩) hlt).trans (hcc k hlk)
                  have hW := HWv.out k hlk
                  have HSk := Lib.hid (fun w => HSu.out w _ hW.1 hW.2)
                  have HHk := Lib.hid (fun q => HV1.out k hlk q)
                  have HQ := Lib.hid (fun q : vieAt fu S.vs k = true => fun j (hj : j < k + 1) => if e : j = k then (e ▸ q : vieAt fu S.vs j = true) else HJ.out j (by omega))
                  have HVk := Lib.hid (HVd.out k)
                  have HB5 := Lib.hid (fun n => below_drewN (below_then HB0.out (below_then HB3.out HB.out)) n)
                  have HB6 := Lib.hid (fun n => below_drewN HB.out n)
                  generalize vieAt fu S.vs k = t at *
                  by_cases z1 : fu < S.vs.getD k 0
                  · have HR := Lib.hid (HHk.out (by rw [HVk.out, decide_eq_false (p := S.vs.getD k 0 < fu) (by omega)]; rfl))
                    rw [decide_eq_false (p := S.vs.getD k 0 < fu + 1) (by omega)] at HSk
                    clear HVk HQ
                    generalize S.vs.getD k 0 = x at *
                    clear hcc hW
                    go_upto_region 25 with fail
                    go_quiet ((go_at_call 14; exact Calls.quiet_of (HSk.out _)))
                    go_wp2_with fail
                    go_ret
                    refine ⟨?_, HB5.out nq⟩
                    rw [HE3.out, HR.out]; rfl
                  · rw [decide_eq_true (p := S.vs.getD k 0 < fu + 1) (by omega)] at HSk
                    by_cases z2 : S.vs.getD k 0 = fu
                    · have HR := Lib.hid (HHk.out (by rw [HVk.out, decide_eq_false (p := S.vs.getD k 0 < fu) (by omega)]; rfl))
                      clear HVk HQ z1
                      rw [z2] at hx HSk
                      clear hcc hW z2
                      go_upto_region 25 with fail
                      go_quiet ((go_at_call 14; exact Calls.quiet_of (HSk.out _)))
                      go_wp2_with fail
                      go_ret
                      refine ⟨?_, HB5.out nq⟩
                      rw [HE3.out, HR.out]; rfl
                    · have z4 : (S.vs.getD k 0 == fu) = false := beq_eq_false_iff_ne.2 z2
                      by_cases k0 : k = 0
                      · subst k0
                        have HQ2 := Lib.hid (HQ.out (by rw [HVk.out, decide_eq_true (p := S.vs.getD 0 0 < fu) (by omega)]; rfl))
                        have hx : wr.cell? ⟨b, off, none⟩ = some (.int .u32 (S.vs.getD 0 0)) := hx
                        clear HVk HQ HHk
                        generalize S.vs.getD 0 0 = x at *
                        clear hcc hW
                        go_upto_region 25 with fail
                        go_quiet ((go_at_call 14; exact Calls.quiet_of (HSk.out _)))
                        go_wp2_with fail
                        go_roundw
                        case rel => exact ⟨0 + 1, by omega, by go_num, Lib.hid (HB6.out nq), HQ2⟩
                        case measure => simp [intOf]; omega
                      · have hy : wr.cell? ⟨b, off + (k - 1), none⟩ = some (.int .u32 (S.vs.getD (k - 1) 0)) := (HB.out.cell (p := ⟨b, off + (k - 1), none⟩) hlt).trans (hcc (k - 1) (by omega))
                        have i1 : ((k : Int) - 1) = ((k - 1 : Nat) : Int) := by omega
                        have i2 : decide ((0 : Int) < (k : Int)) = true := decide_eq_true (by omega)
                        have i4 : (0 < k) = True := eq_true (by omega)
                        have i3 : IntKind.i64.wrap ((k : Int) - 1) = ((k - 1 : Nat) : Int) := by rw [IntWalk.i64_in _ (by omega)]; omega
                        by_cases z3 : S.vs.getD k 0 ≤ S.vs.getD (k - 1) 0
                        · have HR := Lib.hid (HHk.out (by rw [HVk.out, decide_eq_false k0, decide_eq_false (p := S.vs.getD (k - 1) 0 < S.vs.getD k 0) (by omega)]; simp))
                          clear HVk HQ
                          generalize S.vs.getD k 0 = x at *
                          generalize S.vs.getD (k - 1) 0 = y at *
                          clear hcc hW
                          go_upto_region 25 with fail
                          go_quiet ((go_at_call 14; exact Calls.quiet_of (HSk.out _)))
                          go_wp2_with fail
                          go_ret
                          refine ⟨?_, HB5.out nq⟩
                          rw [HE3.out, HR.out]; rfl
                        · have HQ2 := Lib.hid (HQ.out (by rw [HVk.out, decide_eq_true (p := S.vs.getD k 0 < fu) (by omega), decide_eq_true (p := S.vs.getD (k - 1) 0 < S.vs.getD k 0) (by omega)]; simp))
                          clear HVk HQ HHk
                          generalize S.vs.getD k 0 = x at *
                          generalize S.vs.getD (k - 1) 0 = y at *
                          clear hcc hW
                          go_upto_region 25 with fail
                          go_quiet ((go_at_call 14; exact Calls.quiet_of (HSk.out _)))
                          go_wp2_with fail
                          go_roundw
                          case rel => exact ⟨k + 1, by omega, by go_num, Lib.hid (HB6.out nq), HQ2⟩
                          case measure => simp [intOf]; omega
                · have hke : k = S.vs.length := by omega
                  have HR := Lib.hid (HV0.out (by rw [← hke]; exact HJ.out))
                  have hlk' : ¬ (k : Int) < (S.vs.length : Int) := by omega
                  have HB5 := Lib.hid (below_then HB0.out (below_then HB3.out HB.out))
                  go_wp2_with fail
                  go_ret
                  refine ⟨?_, HB5.out⟩
                  rw [HE3.out, HR.out]; rfl
  · have hc2 : cntB S = false := by simpa using hc
    rw [cnt_iff] at hc
    rw [hc2] at HE
    clear h hw
    go_enter Tryz.func12, Tryz.ntmps12
    go_wp2
    all_goals first
      | (exfalso; omega)
      | (go_ret; refine ⟨?_, HB0.out⟩; rw [HE.out]; rfl)
end Go.Proofs.YtigikgphipebiaaGreatDoor
/- Layer 13: keys of codes: pure. -/
namespace Go.Proofs.YtigikgphipebiaaGreatDoor
set_option maxRecDepth 100000
open Go.RowKit
set_option linter.unusedVariables false
/-- The key of codes for a set, the number of keys of a set, of the dimensions from the i-th on. -/
def keyG (d c : Nat → Int) (p : Nat → Bool) : Nat → Int
  | 0 => 0
  | k + 1 => if p k = true then keyG d c p k * d k + c k else keyG d c p k
def numG (d : Nat → Int) (p : Nat → Bool) : Nat → Int
  | 0 => 1
  | k + 1 => if p k = true then numG d p k * d k else numG d p k
def tailG (d : Nat → Int) (p : Nat → Bool) (i : Nat) : Nat → Int
  | 0 => 1
  | j + 1 => if p (i + j) = true then tailG d p i j * d (i + j) else tailG d p i j
theorem tailG_num (d : Nat → Int) (p : Nat → Bool) : ∀ n, tailG d p 0 n = numG d p n
  | 0 => rfl
  | n + 1 => by
    unfold tailG numG
    rw [tailG_num d p n, Nat.zero_add]
theorem tailG_pos {d : Nat → Int} {p : Nat → Bool} {n i : Nat} (hd : ∀ k, k < n → 1 ≤ d k) : ∀ j, i + j ≤ n → 1 ≤ tailG d p i j
  | 0, _ => by simp [tailG]
  | j + 1, h => by
    have h1 := tailG_pos (p := p) (i := i) hd j (by omega)
    have h2 := hd (i + j) (by omega)
    unfold tailG
    split
    · have := Int.mul_le_mul h1 h2 (by omega) (by omega)
      omega
    · exact h1
theorem tailG_cons (d : Nat → Int) (p : Nat → Bool) (i : Nat) : ∀ j, tailG d p i (j + 1) = (if p i = true then d i else 1) * tailG d p (i + 1) j
  | 0 => by
    simp only [tailG, Nat.add_zero]
    split <;> simp
  | j + 1 => by
    rw [tailG, tailG_cons d p i j]
    show _ = (if p i = true then d i else 1) * (if p (i + 1 + j) = true then tailG d p (i + 1) j * d (i + 1 + j) else tailG d p (i + 1) j)
    have e : i + (j + 1) = i + 1 + j := by omega
    rw [e]
    split
    · rw [Int.mul_assoc]
    · rfl
/-- The codes of the set from the i-th on are in their ranges. -/
def InG (d c : Nat → Int) (p : Nat → Bool) (n : Nat) : Prop := ∀ k, k < n → p k = true → 0 ≤ c k ∧ c k < d k
theorem keyG_split {d c : Nat → Int} {p : Nat → Bool} {n i : Nat} (hd : ∀ k, k < n → 1 ≤ d k) (hc : InG d c p n) : ∀ j, i + j ≤ n → ∃ r, 0 ≤ r ∧ r < tailG d p i j ∧ keyG d c p (i + j) = keyG d c p i * tailG d p i j + r
  | 0, _ => ⟨0, by simp, by simp [tailG], by simp [tailG]⟩
  | j + 1, h => by
    obtain ⟨r, h0, h1, h2⟩ := keyG_split (i := i) hd hc j (by omega)
    have hdj := hd (i + j) (by omega)
    have eT : tailG d p i (j + 1) = if p (i + j) = true then tailG d p i j * d (i + j) else tailG d p i j := rfl
    have eK : keyG d c p (i + (j + 1)) = if p (i + j) = true then keyG d c p (i + j) * d (i + j) + c (i + j) else keyG d c p (i + j) := rfl
    rw [eT, eK]
    by_cases hp : p (i + j) = true
    · obtain ⟨c0, c1⟩ := hc (i + j) (by omega) hp
      simp only [if_pos hp]
      refine ⟨r * d (i + j) + c (i + j), ?_, ?_, ?_⟩
      · have := Int.mul_nonneg h0 (show 0 ≤ d (i + j) by omega)
        omega
      · have h3 : (r + 1) * d (i + j) ≤ tailG d p i j * d (i + j) := Int.mul_le_mul_of_nonneg_right (by omega) (by omega)
        rw [Int.add_mul, Int.one_mul] at h3
        omega
      · rw [h2, Int.add_mul, Int.mul_assoc, Int.add_assoc]
    · simp only [if_neg hp]
      exact ⟨r, h0, h1, h2⟩
theorem keyG_range {d c : Nat → Int} {p : Nat → Bool} {n : Nat} (hd : ∀ k, k < n → 1 ≤ d k) (hc : InG d c p n) : 0 ≤ keyG d c p n ∧ keyG d c p n < numG d p n := by
  obtain ⟨r, h0, h1, h2⟩ := keyG_split (i := 0) hd hc n (by omega)
  rw [Nat.zero_add] at h2
  rw [tailG_num] at h1
  have e : keyG d c p 0 = 0 := rfl
  rw [e, Int.zero_mul] at h2
  omega
/-- The i-th code of a key. -/
def codG (d : Nat → Int) (p : Nat → Bool) (n : Nat) (q : Int) (i : Nat) : Int := if p i = true then q / tailG d p (i + 1) (n - i - 1) % d i else -1
/-- What dividing step by step leaves, from the last dimension on. -/
theorem rest_stepG {d : Nat → Int} {p : Nat → Bool} {n : Nat} (hd : ∀ k, k < n → 1 ≤ d k) (q : Int) {i : Nat} (hi : i < n) : q / tailG d p i (n - i) = if p i = true then q / tailG d p (i + 1) (n - (i + 1)) / d i else q / tailG d p (i + 1) (n - (i + 1)) := by
  have ht := tailG_pos (p := p) (i := i + 1) hd (n - i - 1) (by omega)
  have e : n - i = n - i - 1 + 1 := by omega
  have e2 : n - (i + 1) = n - i - 1 := by omega
  rw [e2, e, tailG_cons]
  split
  · rw [Int.mul_comm (d i), ← Int.ediv_ediv_of_nonneg (by omega)]
    rfl
  · rw [Int.one_mul]
    rfl
/-- The k-th dimension is in a set. -/
def bitG (m : Int) (k : Nat) : Bool := decide (m / 2 ^ k % 2 = 1)
theorem keys_num (ds : List (ByteArray × Int)) (m : Int) : ∀ n, keysL ds m n = numG (dz ds) (bitG m) n
  | 0 => rfl
  | n + 1 => by
    have ih := keys_num ds m n
    unfold keysL numG bitG
    rw [ih]
    by_cases h : m / 2 ^ n % 2 = 1
    · rw [if_pos h, if_pos (decide_eq_true h)]; rfl
    · rw [if_neg h, if_neg (by rw [decide_eq_false h]; decide)]; rfl
theorem sizes_one {ds : List (ByteArray × Int)} (h : sizB ds = true) : ∀ k, k < ds.length → 1 ≤ dz ds k := fun k hk => (siz_get h hk).1
end Go.Proofs.YtigikgphipebiaaGreatDoor
