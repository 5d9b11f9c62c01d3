/- Layer 17: maps of sets: copied; the program's Order and Close. -/
import Derived.Test.YtdopgpijbilffaaLatg
import Derived.Maps.RangeWalk
namespace Go.Proofs.Ytdopgpijbilffaa
set_option maxRecDepth 100000
open Go.RowKit Go.Maps Go.Sort Go.Shelf
set_option linter.unusedVariables false
theorem grown_over {a b c : World} {d r : Nat} (h : a.grownBy b (some d)) (k : b.grownBy c (some r)) (hr : a.heap.size ≤ r) : a.grownBy c (some d) :=
  ⟨k.os.trans h.os, k.tape.trans h.tape, k.output.trans h.output, Nat.le_trans h.size k.size, fun i hi hne => (k.block i (Nat.lt_of_lt_of_le hi h.size) (fun e => by have := Option.some.inj e; omega)).trans (h.block i hi hne)⟩
theorem isKey17 (x : Nat) : WideAt.IsKeyLit (keyN x) := by simp [WideAt.IsKeyLit, keyN]
theorem has_put17 {D : DataW Unit} (hD : IsMap D) (x y : Nat) : Maps.has (D.put (keyN x) (.agg [])) (keyN y) = (decide (y = x) || Maps.has D (keyN y)) := by
  by_cases h : y = x
  · subst h
    rw [has_put_same hD (isKey17 y), decide_eq_true rfl, Bool.true_or]
  · have hne : keyN y ≠ keyN x := fun e => h (by
      have := keyN_same y x
      rw [e, keyN_same] at this
      simpa using this.symm)
    rw [has_put_other hne, decide_eq_false h, Bool.false_or]
theorem has_empty (x : Lit) : Maps.has (.map [] : DataW Unit) x = false := rfl
theorem wpList_insert17 {H : Type} {P : Program} (w : World) {ops : Array Oper} {rest : List Oper} {o : Oper} {a : Act} {Q : Exit → Act → World → Prop}
    (hg : o.guard = none) (m x v : Operand) (t : TypeId) (hop : o.op = Op.insert t m x v)
    (k e : TypeId) (K : Keyed P k) (ht : P.underlying t = some (.map k e)) (R : Value → Option (DataW H × List MemPlace)) (b n : Nat) (D : DataW H)
    (hm : a.eval m = .map (some b)) (hown : w.ownsMap P k R b n D) (hn : n < maxLen) (key val : Value) (kl : Lit) (hx : a.eval x = key) (hv : a.eval v = val) (hkey : keyOf P k key = some kl)
    (d : DataW H) (ps : List MemPlace) (hval : R val = some (d, ps))
    (hK : ∀ w', w'.ownsMap P k R b (n + 1) (D.put kl d) → w.grownBy w' (some b) → wpList P ops Q rest (a.put o.dst undef) w') :
    wpList P ops Q (o :: rest) a w := by
  refine wpList_plain hg fun K' hK' => ?_
  obtain ⟨w', hrun, r1, r2⟩ := hown.update K ht hn hkey hval
  unfold Oper.wp
  simp [execOp, hop, hm, hx, hv, hrun, Result.andThen]
  exact hK' _ _ (hK w' r1 r2)
theorem size_le17 {w : World} {b n : Nat} {D : DataW Unit} (h : SetM w b n D) : Maps.size D ≤ n := h.size_le
set_option maxHeartbeats 4000000 in
theorem copy17_any (w : World) (bd bs nd ns : Nat) (Dd Ds : DataW Unit) (hne : bd ≠ bs) (hd : SetM w bd nd Dd) (hs : SetM w bs ns Ds) (hn : nd + ns ≤ 1000000) :
    Calls Try.prog 36 #[.map (some bd), .map (some bs)] w fun e w' => e = .returned (.tuple #[]) ∧
      (∃ D, SetM w' bd (nd + ns) D ∧ ∀ x : U32, Maps.has D (keyN x.1) = (Maps.has Dd (keyN x.1) || Maps.has Ds (keyN x.1))) ∧ w.grownBy w' (some bd) := by
  have hmx : (1000000 : Nat) + 1 ≤ maxLen := by unfold maxLen; omega
  have hszs := size_le17 hs
  have hbd := hd.lt
  have hbs := hs.lt
  have HD := Lib.hid hd
  clear hd
  go_enter Try.func36, Try.ntmps36
  go_wp2_with (first
    | (at_range; refine wpList_range_own _ rfl _ 45 rfl 22 46 lawU Try.underlying45 _ bs ns _ rfl hs ?_; intro w0 hrg0 hg0 hs0)
    | go_in)
  go_frame
  go_loopw [4] (fun _ wr => ∃ (left : Lit → Bool) (cnt : Nat) (Dout : DataW Unit), wr.ranges Try.prog 22 (unitElem (H := Unit)) bs w.heap.size ns Ds left cnt ∧ cnt ≤ Maps.size Ds ∧
      Hid (SetM wr bd (nd + (Maps.size Ds - cnt)) Dout) ∧ Hid (∀ x : U32, Maps.has Dout (keyN x.1) = (Maps.has Dd (keyN x.1) || (Maps.has Ds (keyN x.1) && !left (keyN x.1)))) ∧ Hid (w.grownBy wr (some bd)))
    (fun _ wr => wr.rangeLeft bs w.heap.size)
  case atStart =>
    refine ⟨_, _, Dd, hrg0, Nat.le_refl _, Lib.hid ?_, Lib.hid (fun x => by simp), Lib.hid ?_⟩
    · exact (HD.out.kept hg0 (by simp)).mono (by omega)
    · exact hg0.but _
  case round =>
    obtain ⟨left, cnt, Dout, hrg, hcs, HO, HH, HG⟩ := hrel
    go_wp2_with (first
      | (at_next; refine wpList_next_ranges _ rfl _ rfl 22 lawU (unitElem (H := Unit)) encU (fun (_ : Unit) => Value.agg #[]) (fun key kl hk => by obtain ⟨x, hx, _⟩ := key_u32 hk; exact ⟨x, hx⟩) (fun v y hv => ⟨(), (unitElem_inv hv).1⟩) bs w.heap.size ns _ _ _ rfl hrg ?_ ?_)
      | go_in)
    · intro hc0 hl0
      go_wp2
      go_end0
      refine ⟨rfl, ⟨Dout, HO.out.mono (by omega), fun x => ?_⟩, HG.out⟩
      rw [HH.out, hl0]
      simp
    · intro a ha kl yd yp w1 cnt1 hkey hlk hv hat hrg1 hlt hg1 hs1 hen
      obtain ⟨x', ex, rfl⟩ := key_u32 hkey
      obtain rfl : (⟨a, ha⟩ : U32) = x' := encU_inj ex
      obtain ⟨-, hyd⟩ := unitElem_inv hv
      obtain rfl : yd = .agg [] := congrArg Prod.fst hyd
      have HO1 := Lib.hid (HO.out.kept hg1 (by simp; omega))
      have hw1 : w1.heap.size = wr.heap.size := hs1
      have HS1 := Lib.hid hs1
      clear hs1 hw1 hyd hv
      go_wp2_with (first
        | (at_mapUpdate; refine wpList_mapUpdate_own _ rfl _ _ _ 45 rfl 22 46 lawU Try.underlying45 (unitElem (H := Unit)) bd _ _ rfl (HO1.out.alloc _) (by omega) _ _ _ rfl rfl (show keyOf Try.prog 22 (encU ⟨a, ha⟩) = some (keyN a) from key17 ha) _ [] unitElem_mk ?_; intro w2 hout2 hg2; go_frame)
        | go_in)
      have hw1 : w1.heap.size = wr.heap.size := HS1.out
      have hsw : w.heap.size ≤ wr.heap.size := HG.out.size
      have hrl : w.heap.size < w1.heap.size := hrg1.lt
      have hrg2 := (hrg1.kept (World.grownBy_alloc w1 (.cells #[] 46) none) (by simp) (by simp)).kept hg2 (fun e => hne (Option.some.inj e).symm) (fun e => by have := Option.some.inj e; omega)
      refine ⟨⟨_, cnt1, _, hrg2, by omega, Lib.hid (hout2.mono (by omega)), Lib.hid (fun x => ?_), Lib.hid ?_⟩, ?_⟩
      · rw [has_put17 HO1.out.isMap, HH.out]
        show _ = (Maps.has Dd (keyN x.1) || (Maps.has Ds (keyN x.1) && !(left (keyN x.1) && !(keyN x.1).sameKey (keyN a))))
        rw [keyN_same]
        by_cases hx : x.1 = a
        · rw [hx, has_true_of_atKey hat, hlk]; simp
        · rw [decide_eq_false hx]; simp
      · exact (grown_over HG.out hg1 (Nat.le_refl _)).trans ((World.grownBy_alloc w1 (.cells #[] 46) (some bd)).trans hg2)
      · rw [hrg2.left_eq, hrg.left_eq]; exact hlt
end Go.Proofs.Ytdopgpijbilffaa
