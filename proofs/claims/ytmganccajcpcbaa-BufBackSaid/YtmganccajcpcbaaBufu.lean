/- The reference's bytes of a thing. -/
import Derived.Test.YtmganccajcpcbaaBufq
import Derived.Test.YtmganccajcpcbaaCodee
import Derived.Lib.AppendStr
namespace Go.Proofs.Ytmganccajcpcbaa
set_option maxRecDepth 100000
open Go.RowKit
set_option linter.unusedVariables false
theorem strCells_ofS (s : ByteArray) : Lib.strCells s = (ofS s).map (Value.int .u8) := by simp [Lib.strCells, ofS]
/-- An append of a string's bytes to a row of bytes of the call's own. -/
theorem step_append_str {w : World} {ops : Array Oper} {o : Oper} {a : Act} {K : Act → World → Prop} {Q : Exit → Act → World → Prop} {E : Prop} (hgd : o.guard = none) (x y : Operand)
    (ho : o.op = .call { callee := .builtin .append, args := #[x, y], argTypes := #[22, 9] })
    (base : Nat) (v : Value) (l : List Int) (s : ByteArray) (hx : a.eval x = v) (hy : a.eval y = .string s) (hown : BOwn w base v l) (hn : l.length + s.size ≤ 1000000) (hbase : base ≤ w.heap.size)
    (h : ∀ v' w', BOwn w' base v' (l ++ ofS s) → w.grownBy w' v.ownBlock → K (a.put o.dst v') w') :
    if Region.wanted o (yielded ops a.tmps) = true then Oper.wp Try.prog o a w K Q else E := by
  obtain ⟨i0, hi, hz0, hz1, hz2⟩ := info_parts Try.infoU8
  have hw : Region.wanted o (yielded ops a.tmps) = true := by simp [Region.wanted, hgd]
  rw [if_pos hw]
  obtain ⟨v', w', hr, h2, h3, -⟩ := Lib.run_append_own_string (P := Try.prog) w base 22 9 o.type 5 i0 Try.underlying22 Try.underlying9 hi hz0 hz1 hz2 v l.length _ hown s (by unfold maxLen; omega) (by omega) hbase
  unfold Oper.wp
  simp [execOp, ho, resolve, invoke, builtin, hx, hy, hr, Result.andThen]
  refine h v' w' ?_ h3
  rw [strCells_ofS, ← List.map_append] at h2
  have e : l.length + s.size = (l ++ ofS s).length := by rw [List.length_append, ofS_len]
  rw [e] at h2
  exact h2
theorem rb0_any (w : World) (u i : Int) (f : Nat) (t : ByteArray) (m : Int) (hu : 0 ≤ u ∧ u < 18446744073709551616) :
    Calls Try.prog 16 #[askV 0 u i f t m] w (BytesP w (encU u.toNat)) := by
  have hu2 : ((u.toNat : Nat) : Int) = u := by omega
  have HC := Lib.hid (rU_any u.toNat (w.alloc (askO 0 u i f t m)) (by omega))
  rw [hu2] at HC
  have HB := Lib.hid (below_one w (askO 0 u i f t m))
  go_enter Try.func16, Try.ntmps16
  go_wp2_with fail
  refine (HC.out).mono ?_; rintro r w1 ⟨⟨v, rfl, ho⟩, hb⟩
  have HO := Lib.hid (And.intro (own_mono ho HB.out.size) (below_then HB.out hb))
  obtain ⟨pa, pl, pc, rfl⟩ := own_slice3 ho
  clear ho hb
  go_wp2_with fail
  go_ret
  exact ⟨⟨_, rfl, HO.out.1⟩, HO.out.2⟩
theorem rb1_any (w : World) (u i : Int) (f : Nat) (t : ByteArray) (m : Int) (hi : -9223372036854775808 ≤ i ∧ i ≤ 9223372036854775807) :
    Calls Try.prog 16 #[askV 1 u i f t m] w (BytesP w (encI i)) := by
  have HC := Lib.hid (rI_any i (w.alloc (askO 1 u i f t m)) hi.1 hi.2)
  have HB := Lib.hid (below_one w (askO 1 u i f t m))
  go_enter Try.func16, Try.ntmps16
  go_wp2_with fail
  refine (HC.out).mono ?_; rintro r w1 ⟨⟨v, rfl, ho⟩, hb⟩
  have HO := Lib.hid (And.intro (own_mono ho HB.out.size) (below_then HB.out hb))
  obtain ⟨pa, pl, pc, rfl⟩ := own_slice3 ho
  clear ho hb
  go_wp2_with fail
  go_ret
  exact ⟨⟨_, rfl, HO.out.1⟩, HO.out.2⟩
theorem rb2_any (w : World) (u i : Int) (f k : Nat) (t : ByteArray) (m : Int) (hf : W64 f) (hk : keyI f = (k : Int)) :
    Calls Try.prog 16 #[askV 2 u i f t m] w (BytesP w (encF k)) := by
  have HC := Lib.hid (rF_any f k (w.alloc (askO 2 u i f t m)) hf hk)
  have HB := Lib.hid (below_one w (askO 2 u i f t m))
  clear hk
  go_enter Try.func16, Try.ntmps16
  go_wp2_with fail
  refine (HC.out).mono ?_; rintro r w1 ⟨⟨v, rfl, ho⟩, hb⟩
  have HO := Lib.hid (And.intro (own_mono ho HB.out.size) (below_then HB.out hb))
  obtain ⟨pa, pl, pc, rfl⟩ := own_slice3 ho
  clear ho hb
  go_wp2_with fail
  go_ret
  exact ⟨⟨_, rfl, HO.out.1⟩, HO.out.2⟩
theorem rb3_any (w : World) (u i : Int) (f : Nat) (t : ByteArray) (m : Int) (ht : t.size ≤ 1000) :
    Calls Try.prog 16 #[askV 3 u i f t m] w (BytesP w (encT (ofS t))) := by
  have HC := Lib.hid (rT_any t (w.alloc (askO 3 u i f t m)) ht)
  have HB := Lib.hid (below_one w (askO 3 u i f t m))
  go_enter Try.func16, Try.ntmps16
  go_wp2_with fail
  refine (HC.out).mono ?_; rintro r w1 ⟨⟨v, rfl, ho⟩, hb⟩
  have HO := Lib.hid (And.intro (own_mono ho HB.out.size) (below_then HB.out hb))
  obtain ⟨pa, pl, pc, rfl⟩ := own_slice3 ho
  clear ho hb
  go_wp2_with fail
  go_ret
  exact ⟨⟨_, rfl, HO.out.1⟩, HO.out.2⟩
set_option maxHeartbeats 1000000 in
theorem rb4_any (w : World) (u i : Int) (f : Nat) (t : ByteArray) (m : Int) (ht : t.size ≤ 1000) :
    Calls Try.prog 16 #[askV 4 u i f t m] w (BytesP w (encU t.size ++ ofS t)) := by
  have HB := Lib.hid (below_one w (askO 4 u i f t m))
  have HC := Lib.hid (fun w1 => rU_any t.size w1 (by omega))
  have hel := (encU_len (x := t.size) (by omega)).2
  generalize encU t.size = e at *
  have k4 : (w.alloc (askO 4 u i f t m)).drew.cell? ⟨w.heap.size, 4, none⟩ = some (.string t) := by simp [go_sem]
  have i1 : IntKind.u64.wrap (t.size : Int) = (t.size : Int) := by rw [IntKind.wrap_u64]; omega
  go_enter Try.func16, Try.ntmps16
  go_upto_region 10 with fail
  generalize w.alloc (askO 4 u i f t m) = W at *
  have hBw : Below w.heap.size w W.drew := HB.out.drew
  go_region_law (first
    | (refine step_append_str (by rfl) _ _ (by rfl) w.heap.size _ e t (by rfl) (by rfl) HO.out.1 (by omega) HO.out.2.size ?_; intro v' w2 hown hgrow; have HQ := Lib.hid (And.intro hown (HO.out.2.grown hgrow HO.out.2.size (fun k hk => (HO.out.1.lt k hk).1))); obtain ⟨pv', lv', cv', rfl⟩ := own_slice3 hown; clear hown hgrow)
    | (go_simp; go_at_call 37; refine (HC.out _).mono ?_; rintro r w1 ⟨⟨v, rfl, ho⟩, hb⟩; have HO := Lib.hid (And.intro (own_mono ho hBw.size) (below_then hBw hb)); have k4 := cell_on hb k4; obtain ⟨pa, pl, pc, rfl⟩ := own_slice3 ho; clear ho hb))
  all_goals
    go_wp2_with fail
    go_ret
    exact ⟨⟨_, rfl, HQ.out.1⟩, HQ.out.2⟩
theorem rb_any (w : World) (d u i : Int) (f k : Nat) (t : ByteArray) (m : Int) (hd : 0 ≤ d ∧ d ≤ 4) (hu : 0 ≤ u ∧ u < 18446744073709551616) (hi : -9223372036854775808 ≤ i ∧ i ≤ 9223372036854775807) (hf : W64 f) (hk : keyI f = (k : Int)) (ht : t.size ≤ 1000) :
    Calls Try.prog 16 #[askV d u i f t m] w (BytesP w (encA d u i k t)) := by
  unfold encA
  by_cases h0 : d = 0
  · subst h0; rw [if_pos rfl]; exact rb0_any w u i f t m hu
  · by_cases h1 : d = 1
    · subst h1; rw [if_neg h0, if_pos rfl]; exact rb1_any w u i f t m hi
    · by_cases h2 : d = 2
      · subst h2; rw [if_neg h0, if_neg h1, if_pos rfl]; exact rb2_any w u i f k t m hf hk
      · by_cases h3 : d = 3
        · subst h3; rw [if_neg h0, if_neg h1, if_neg h2, if_pos rfl]; exact rb3_any w u i f t m ht
        · obtain rfl : d = 4 := by omega
          rw [if_neg h0, if_neg h1, if_neg h2, if_neg h3]; exact rb4_any w u i f t m ht
end Go.Proofs.Ytmganccajcpcbaa
