/- Layer 11: the reference's names, Keys, Light. -/
import Derived.Test.YtdlebcjkokabjaaSchh
namespace Go.Proofs.Ytdlebcjkokabjaa
set_option maxRecDepth 100000
open Go.RowKit
set_option linter.unusedVariables false
theorem step_append_strs {P : Program} (w : World) {ops : Array Oper} {o : Oper} {a : Act} {K : Act → World → Prop} {Q : Exit → Act → World → Prop} {E : Prop} (hgd : o.guard = none) (s x : Operand) (t : TypeId)
    (ho : o.op = .call { callee := .builtin .append, args := #[s, x], argTypes := #[t, t] })
    (base : Nat) (e : TypeId) (i : TypeInfo) (z : Value) (bytes : Nat) (ht : P.underlying t = some (.slice e)) (hi : P.info? e = some i) (hz : i.zero = some z) (hsize : i.size = 1) (hby : i.bytes = bytes) (hzs : z.cells.size = 1)
    (v v2 : Value) (zs ns : List ByteArray) (hs : a.eval s = v) (hx : a.eval x = v2) (hown : w.ownsRow base e 1 v zs.length (zs.map Value.string)) (hv2 : Strs w v2 ns) (h63 : zs.length + ns.length ≤ maxLen) (hbytes : (zs.length + ns.length) * bytes ≤ 140737488355328) (hbase : base ≤ w.heap.size)
    (h : ∀ v' w', w'.ownsRow base e 1 v' (zs ++ ns).length ((zs ++ ns).map Value.string) → w.grownBy w' v.ownBlock → K (a.put o.dst v') w') :
    if Region.wanted o (yielded ops a.tmps) = true then Oper.wp P o a w K Q else E := by
  have hw : Region.wanted o (yielded ops a.tmps) = true := by simp [Region.wanted, hgd]
  rw [if_pos hw]
  obtain ⟨v', w', hrun, r1, r2⟩ := run_append_strs (P := P) w base t o.type e i z bytes ht hi hz hsize hby hzs v v2 zs ns hown hv2 h63 hbytes hbase
  unfold Oper.wp
  simp [execOp, ho, resolve, invoke, builtin, hs, hx, hrun, Result.andThen]
  exact h v' w' r1 r2
theorem names_app (S : Sc) : (S.ds.map Prod.fst ++ S.is) ++ S.ns = namesL S := rfl
theorem sown_mono {w : World} {B B' E n : Nat} {v : Value} {xs : List Value} (h : w.ownsRow B E 1 v n xs) (hb : B' ≤ B) : w.ownsRow B' E 1 v n xs := by
  refine ⟨h.1, ?_⟩
  rcases h.2 with h0 | ⟨g, cap, cur, h1, h2, h3⟩
  · exact .inl h0
  · exact .inr ⟨g, cap, cur, h1, Nat.le_trans hb h2, h3⟩
set_option maxHeartbeats 4000000 in
theorem rnames_any (w : World) (D I M V : Value) (S : Sc) (h : Sch4 w D I M V S) (hn : S.ds.length ≤ 100 ∧ S.is.length ≤ 100 ∧ S.ns.length ≤ 100) :
    Calls Try.prog 23 #[SchV D I M V] w (MadeS w.heap.size w (namesL S)) := by
  obtain ⟨i0, hi, hz0, hz1, hz2⟩ := info_parts Try.infoStr
  have HB0 := Lib.hid (below_one w (SchO D I M V))
  have HX := Lib.hid (box_new w D I M V)
  have HH := Lib.hid h
  have hd := h.d
  obtain ⟨⟨a, c, rfl⟩, ⟨a2, c2, rfl⟩, ⟨a3, c3, rfl⟩, a4, c4, rfl⟩ := h.slices
  obtain ⟨a', cap', e', h1, h2, h3⟩ := hd
  obtain ⟨rfl, rfl⟩ : a = a' ∧ c = cap' := by injection e' with e1 e2 e3; exact ⟨e1, e3⟩
  have HC := Lib.hid h3
  have HT := Lib.hid (fun k (hk : k < S.ds.length) => show ((S.ds.take k).map Prod.fst) ++ [dn S.ds k] = (S.ds.take (k + 1)).map Prod.fst by rw [List.take_add_one, List.getElem?_eq_getElem hk, dn_get hk, List.map_append]; rfl)
  have HL := Lib.hid (fun k => show ((S.ds.take k).map Prod.fst).length ≤ 100 by simp; omega)
  have HE := Lib.hid (show (S.ds.take S.ds.length).map Prod.fst = S.ds.map Prod.fst by rw [List.take_length])
  have HN := Lib.hid (names_app S)
  have HDl := Lib.hid (show (S.ds.map Prod.fst).length ≤ 100 by simp; omega)
  clear h h3 e'
  go_enter Try.func23, Try.ntmps23
  go_wp2_with fail
  generalize hW0 : w.alloc (SchO (.slice a S.ds.length c) (.slice a2 S.is.length c2) (.slice a3 S.ns.length c3) (.slice a4 S.vs.length c4)) = W0 at *
  go_loopw [3, 4] (fun lv i wr => ∃ k : Nat, k ≤ S.ds.length ∧ i = .int .i64 k ∧ Hid (SOwn wr W0.heap.size lv ((S.ds.take k).map Prod.fst) ∧ Below W0.heap.size W0 wr)) (fun _ i _ => S.ds.length - (intOf i).toNat)
  case atStart => exact ⟨0, Nat.zero_le _, rfl, Lib.hid ⟨sown0 _ _, Below.refl _ _⟩⟩
  case round =>
    obtain ⟨k, hk, rfl, HS⟩ := hrel
    obtain ⟨x0, x1, x2, x3⟩ := (HX.out.below HS.out.2).reads
    by_cases hlk : k < S.ds.length
    · have hlk' : (k : Int) < (S.ds.length : Int) := by omega
      rcases HC.out with h3 | ⟨b, off, rfl, hlt, hc⟩
      · rw [h3] at hlk; simp at hlk
      obtain ⟨c0, c1⟩ := hc k hlk
      have c0 : wr.cell? ⟨b, off + k * 2, none⟩ = _ := ((below_then HB0.out HS.out.2).cell (p := ⟨b, off + k * 2, none⟩) hlt).trans c0
      have HTk := Lib.hid (HT.out k hlk)
      have HLk := Lib.hid (HL.out k)
      clear hc c1
      generalize dn S.ds k = x at *
      generalize (S.ds.take k).map Prod.fst = L at *
      obtain ⟨pa, pl, pc, rfl⟩ := own_slice3 HS.out.1
      have hsz := HS.out.2.size
      go_wp2_with (at_builtin; refine wpList_append_strs _ (by rfl) _ _ 23 rfl W0.heap.size 9 i0 (.string ⟨#[]⟩) 16 Try.underlying23 hi hz0 hz1 hz2 rfl _ _ L [x] rfl rfl (HS.out.1.alloc _) (strs_one rfl) (by have := HLk.out; unfold maxLen; simp; omega) (by have := HLk.out; simp; omega) (by simp; omega) ?_; intro v' w1 hown hgrow; have HQ := Lib.hid (And.intro hown (sown_grown (HS.out.2.alloc hsz _) (by simp; omega) (HS.out.1.alloc _) hgrow)); obtain ⟨pv', lv', cv', rfl⟩ := own_slice3 hown; clear hown hgrow)
      go_roundw
      case rel => exact ⟨k + 1, by omega, by go_num, Lib.hid ⟨by rw [← HTk.out]; exact HQ.out.1, HQ.out.2⟩⟩
      case measure => simp [intOf]; omega
    · have hke : k = S.ds.length := by omega
      subst hke
      have HS2 := HS.out
      rw [HE.out] at HS2
      have HS3 := Lib.hid HS2
      clear HS2
      have HLs := Lib.hid (show (S.ds.map Prod.fst ++ S.is).length ≤ 200 by have := HDl.out; rw [List.length_append]; omega)
      generalize S.ds.map Prod.fst = L at *
      obtain ⟨pa, pl, pc, rfl⟩ := own_slice3 HS3.out.1
      go_upto_region 6 with fail
      have hk : wr.drew.cell? ⟨w.heap.size, 0, none⟩ = some (.slice a S.ds.length c) ∧ wr.drew.cell? ⟨w.heap.size, 1, none⟩ = some (.slice a2 S.is.length c2) ∧ wr.drew.cell? ⟨w.heap.size, 2, none⟩ = some (.slice a3 S.ns.length c3) ∧ wr.drew.cell? ⟨w.heap.size, 3, none⟩ = some (.slice a4 S.vs.length c4) := ⟨by simp [x0], by simp [x1], by simp [x2], by simp [x3]⟩
      have hBw : Below W0.heap.size W0 wr.drew := HS3.out.2.drew
      have hO : SOwn wr.drew W0.heap.size (.slice pa pl pc) L := HS3.out.1.drew
      clear x0 x1 x2 x3
      go_region_held3 (fun w' => w'.cell? ⟨w.heap.size, 0, none⟩ = some (.slice a S.ds.length c) ∧ w'.cell? ⟨w.heap.size, 1, none⟩ = some (.slice a2 S.is.length c2) ∧ w'.cell? ⟨w.heap.size, 2, none⟩ = some (.slice a3 S.ns.length c3) ∧ w'.cell? ⟨w.heap.size, 3, none⟩ = some (.slice a4 S.vs.length c4)) (with_reducible exact hk)
        (first
          | (refine step_append_strs _ (by rfl) _ _ _ (by rfl) W0.heap.size 9 i0 (.string ⟨#[]⟩) 16 Try.underlying23 hi hz0 hz1 hz2 (by rfl) _ _ L S.is (by rfl) (by rfl) hO (HH.out.i.below (below_then HB0.out hBw)) (by have := HDl.out; unfold maxLen; omega) (by have := HDl.out; omega) hBw.size ?_; intro v' w3 hown hgrow; have hO2 := hown; have hBw2 := sown_grown hBw hBw.size hO hgrow; have hk := quad_hold hBw2 (HX.out.reads); obtain ⟨pv', lv', cv', rfl⟩ := own_slice3 hown; clear hown hgrow)
          | (refine step_append_strs _ (by rfl) _ _ _ (by rfl) W0.heap.size 9 i0 (.string ⟨#[]⟩) 16 Try.underlying23 hi hz0 hz1 hz2 (by rfl) _ _ (L ++ S.is) S.ns (by rfl) (by rfl) hO2 (HH.out.n.below (below_then HB0.out hBw2)) (by have := HLs.out; unfold maxLen; omega) (by have := HLs.out; omega) hBw2.size ?_; intro v' w3 hown hgrow; have HQ := Lib.hid (And.intro hown (sown_grown hBw2 hBw2.size hO2 hgrow)); have hk := quad_hold HQ.out.2 (HX.out.reads); obtain ⟨pv', lv', cv', rfl⟩ := own_slice3 hown; clear hown hgrow))
      clear hk hO hO2
      go_wp2_with fail
      go_ret
      refine ⟨⟨_, rfl, ?_⟩, below_then HB0.out HQ.out.2⟩
      rw [← HN.out]
      exact sown_mono HQ.out.1 HB0.out.size
end Go.Proofs.Ytdlebcjkokabjaa
