/- Package exact: a sum in memory; math's tests with a sign; New, flag, usable, has. -/
import Derived.Test.YtboinjkeaffboaaDoorExa
namespace Go.Proofs.YtboinjkeaffboaaDoor
set_option maxRecDepth 100000
open Go.RowKit
set_option linter.unusedVariables false
theorem inf_up {x : Nat} (hx : W64 x) : (FloatKind.f64.format.order x 9218868437227405311 == some .gt) = (isInfB x && !negB x) := by
  have h9 : notNan 9218868437227405311 := ⟨by decide, by decide⟩
  by_cases h : isNaNB x = true
  · rw [ord_nan_l h]
    have := nan_of h
    have e : isInfB x = false := by unfold isInfB; simp; omega
    rw [e]; rfl
  · have h' : isNaNB x = false := by simpa using h
    have hn := notNan_of hx h'
    have hn2 := hn.2
    rw [ord_gt hn h9, skey_pos (x := 9218868437227405311) (by omega)]
    unfold isInfB negB
    by_cases hs : 9223372036854775808 ≤ x
    · rw [skey_neg hs]; simp [hs]; omega
    · rw [skey_pos (by omega)]; simp [hs]; omega
theorem inf_dn {x : Nat} (hx : W64 x) : (FloatKind.f64.format.order (flipN x) 9218868437227405311 == some .gt) = (isInfB x && negB x) := by
  have e : isInfB (flipN x) = isInfB x := by
    unfold isInfB flipN; unfold W64 at hx
    by_cases hs : x < 9223372036854775808
    · rw [if_pos hs, decide_eq_decide]; omega
    · rw [if_neg hs, decide_eq_decide]; omega
  have e2 : negB (flipN x) = !negB x := by
    unfold negB flipN; unfold W64 at hx
    by_cases hs : x < 9223372036854775808
    · rw [if_pos hs, decide_eq_true (by omega), decide_eq_false (by omega)]; rfl
    · rw [if_neg hs, decide_eq_false (by omega), decide_eq_true (by omega)]; rfl
  rw [inf_up (flip_w64 hx), e, e2, Bool.not_not]
theorem isInf_up (x : Nat) (w : World) (hx : W64 x) :
    Calls Tryd.prog 85 #[.float .f64 x, .int .i64 1] w fun e w' => e = .returned (.bool (isInfB x && !negB x)) ∧ w = w' := by
  have H := inf_up hx
  generalize (isInfB x && !negB x) = a at *
  go_enter Tryd.func85, Tryd.ntmps85
  go_wp2_with fail
  all_goals (go_ret; exact ⟨rfl, rfl⟩)
theorem isInf_dn (x : Nat) (w : World) (hx : W64 x) :
    Calls Tryd.prog 85 #[.float .f64 x, .int .i64 (-1)] w fun e w' => e = .returned (.bool (isInfB x && negB x)) ∧ w = w' := by
  have H := inf_dn hx
  have hN := fun w => run_neg (P := Tryd.prog) x hx w
  generalize (isInfB x && negB x) = a at *
  generalize flipN x = y at *
  go_enter Tryd.func85, Tryd.ntmps85
  go_wp2_with fail
  all_goals (go_ret; exact ⟨rfl, rfl⟩)
theorem finf_dn (w : World) : Calls Tryd.prog 49 #[.int .i64 (-1)] w fun e w' => e = .returned (.float .f64 18442240474082181120) ∧ w = w' := by
  have hG := fun n w => ffrom n w
  go_enter Tryd.func49, Tryd.ntmps49
  go_wp2
  all_goals (go_ret; exact ⟨rfl, rfl⟩)
theorem flag_form (x : Nat) : flagN x = if isNaNB x then 1 else if (isInfB x && !negB x) then 2 else if (isInfB x && negB x) then 4 else if isZeroB x then (if negB x then 8 else 16) else 16 := by
  unfold flagN
  cases isNaNB x <;> cases isInfB x <;> cases isZeroB x <;> cases negB x <;> rfl
set_option maxHeartbeats 1000000 in
theorem xflag_any (x : Nat) (w : World) (hx : W64 x) :
    Calls Tryd.prog 60 #[.float .f64 x] w fun e w' => e = .returned (.int .u8 (flagN x)) ∧ w = w' := by
  have h1 := Lib.hid (fun w => isNaN_any x w hx)
  have h2 := Lib.hid (fun w => isInf_up x w hx)
  have h3 := Lib.hid (fun w => isInf_dn x w hx)
  have h4 := Lib.hid (fun w => signbit_any x w hx)
  have hz := zero_test x hx
  rw [flag_form]
  generalize isNaNB x = a at *
  generalize (isInfB x && !negB x) = p at *
  generalize (isInfB x && negB x) = q at *
  generalize isZeroB x = z at *
  generalize negB x = n at *
  clear hx
  cases a
  · cases p
    · cases q
      · cases z
        · go_enter Tryd.func60, Tryd.ntmps60
          go_wp2_with (first | ((with_reducible refine (h1.out _).mono ?_); rintro e w' ⟨rfl, rfl⟩) | ((with_reducible refine (h2.out _).mono ?_); rintro e w' ⟨rfl, rfl⟩) | ((with_reducible refine (h3.out _).mono ?_); rintro e w' ⟨rfl, rfl⟩) | ((with_reducible refine (h4.out _).mono ?_); rintro e w' ⟨rfl, rfl⟩))
          go_ret
          exact ⟨rfl, rfl⟩
        · cases n
          all_goals
            go_enter Tryd.func60, Tryd.ntmps60
            go_wp2_with (first | ((with_reducible refine (h1.out _).mono ?_); rintro e w' ⟨rfl, rfl⟩) | ((with_reducible refine (h2.out _).mono ?_); rintro e w' ⟨rfl, rfl⟩) | ((with_reducible refine (h3.out _).mono ?_); rintro e w' ⟨rfl, rfl⟩) | ((with_reducible refine (h4.out _).mono ?_); rintro e w' ⟨rfl, rfl⟩))
            go_ret
            exact ⟨rfl, rfl⟩
      · go_enter Tryd.func60, Tryd.ntmps60
        go_wp2_with (first | ((with_reducible refine (h1.out _).mono ?_); rintro e w' ⟨rfl, rfl⟩) | ((with_reducible refine (h2.out _).mono ?_); rintro e w' ⟨rfl, rfl⟩) | ((with_reducible refine (h3.out _).mono ?_); rintro e w' ⟨rfl, rfl⟩))
        go_ret
        exact ⟨rfl, rfl⟩
    · go_enter Tryd.func60, Tryd.ntmps60
      go_wp2_with (first | ((with_reducible refine (h1.out _).mono ?_); rintro e w' ⟨rfl, rfl⟩) | ((with_reducible refine (h2.out _).mono ?_); rintro e w' ⟨rfl, rfl⟩))
      go_ret
      exact ⟨rfl, rfl⟩
  · go_enter Tryd.func60, Tryd.ntmps60
    go_wp2_with (first | ((with_reducible refine (h1.out _).mono ?_); rintro e w' ⟨rfl, rfl⟩))
    go_ret
    exact ⟨rfl, rfl⟩
/-- The four cells of a sum. -/
def Cells4 (w : World) (N : Nat) (v : Value) (b : Bool) (f : Nat) (m : Bool) : Prop := w.heap[N]? = some (.cells #[v, .bool b, .int .u8 f, .bool m] 60 (0, 0))
theorem Cells4.reads {w : World} {N : Nat} {v : Value} {b m : Bool} {f : Nat} (h : Cells4 w N v b f m) :
    w.cell? ⟨N, 0, none⟩ = some v ∧ w.cell? ⟨N, 1, none⟩ = some (.bool b) ∧ w.cell? ⟨N, 2, none⟩ = some (.int .u8 f) ∧ w.cell? ⟨N, 3, none⟩ = some (.bool m) := by
  unfold Cells4 at h
  refine ⟨by simp [World.cell?, h], by simp [World.cell?, h], by simp [World.cell?, h], by simp [World.cell?, h]⟩
theorem Cells4.free {w : World} {N : Nat} {v : Value} {b m : Bool} {f : Nat} (h : Cells4 w N v b f m) :
    w.frozen? ⟨N, 0, none⟩ = false ∧ w.frozen? ⟨N, 1, none⟩ = false ∧ w.frozen? ⟨N, 2, none⟩ = false ∧ w.frozen? ⟨N, 3, none⟩ = false := by
  unfold Cells4 at h
  refine ⟨by simp [World.frozen?, h], by simp [World.frozen?, h], by simp [World.frozen?, h], by simp [World.frozen?, h]⟩
theorem Cells4.lt {w : World} {N : Nat} {v : Value} {b m : Bool} {f : Nat} (h : Cells4 w N v b f m) : N < w.heap.size := (Array.getElem?_eq_some_iff.1 h).1
theorem Cells4.below {w w' : World} {N : Nat} {v : Value} {b m : Bool} {f : Nat} (h : Cells4 w N v b f m) (hb : Below w.heap.size w w') : Cells4 w' N v b f m := by
  unfold Cells4; rw [hb.block N h.lt]; exact h
theorem Cells4.new (w : World) (v : Value) (b : Bool) (f : Nat) (m : Bool) : Cells4 (w.alloc (.cells #[v, .bool b, .int .u8 f, .bool m] 60)) w.heap.size v b f m := heap_alloc_new w _
theorem Ints.grown {E T : TypeId} {k : IntKind} {w w' : World} {v : Value} {zs : List Int} {N : Nat} {cur : Array Value} {fr : Nat × Nat} (h : Ints k w v zs) (ht : Typed E w v) (hp : w.heap[N]? = some (.cells cur T fr)) (hne : T ≠ E) (hg : w.grownBy w' (some N)) : Ints k w' v zs := by
  obtain ⟨a, cap, rfl, hl, hc⟩ := h
  refine ⟨a, cap, rfl, hl, hc.imp id ?_⟩
  rintro ⟨b, off, rfl, hb, hcell⟩
  have hbN : b ≠ N := by
    rintro rfl
    obtain ⟨cur', fr', h'⟩ := ht b off _ _ rfl
    rw [hp] at h'
    simp only [Option.some.injEq, Obj.cells.injEq] at h'
    exact hne h'.2.1
  have hblk := hg.block b hb (by simpa using hbN)
  refine ⟨b, off, rfl, by have := hg.size; omega, fun i hi => ?_⟩
  rw [World.cell?_of_block (a := ⟨b, off + i, none⟩) hblk]; exact hcell i hi
theorem Typed.grown {E T : TypeId} {w w' : World} {v : Value} {N : Nat} {cur : Array Value} {fr : Nat × Nat} (ht : Typed E w v) (hp : w.heap[N]? = some (.cells cur T fr)) (hne : T ≠ E) (hg : w.grownBy w' (some N)) : Typed E w' v := by
  intro b off l c e
  obtain ⟨cur', fr', h'⟩ := ht b off l c e
  refine ⟨cur', fr', ?_⟩
  rw [hg.block b (Array.getElem?_eq_some_iff.1 h').1 ?_]
  · exact h'
  · intro e2
    simp only [Option.some.injEq] at e2
    subst e2
    rw [hp] at h'
    simp only [Option.some.injEq, Obj.cells.injEq] at h'
    exact hne h'.2.1
theorem IsNum.grown {w w' : World} {v : Value} {z : Int} {N : Nat} {cur : Array Value} {T : TypeId} {fr : Nat × Nat} (h : IsNum w v z) (hp : w.heap[N]? = some (.cells cur T fr)) (hne : T ≠ 3) (hg : w.grownBy w' (some N)) : IsNum w' v z := by
  obtain ⟨neg, s, ds, h1, h2, h3, h4⟩ := h
  exact ⟨neg, s, ds, h1, h2.grown h3 hp hne hg, h3.grown hp hne hg, h4⟩
/-- What a sum's cells hold: its state. -/
def Mag (w : World) (v : Value) (t : Int) : Prop := ∃ a, WList w v a ∧ Typed 83 w v ∧ Tidy a ∧ wv a = (t.natAbs : Int)
theorem Mag.below {w w' : World} {v : Value} {t : Int} (h : Mag w v t) (hb : Below w.heap.size w w') : Mag w' v t := by
  obtain ⟨a, h1, h2, h3⟩ := h
  exact ⟨a, h1.below hb, h2.below hb, h3⟩
theorem Mag.grown {w w' : World} {v : Value} {t : Int} {N : Nat} {u : Value} {b m : Bool} {f : Nat} (h : Mag w v t) (hp : Cells4 w N u b f m) (hg : w.grownBy w' (some N)) : Mag w' v t := by
  obtain ⟨a, h1, h2, h3⟩ := h
  exact ⟨a, ⟨h1.1.grown h2 hp (by decide) hg, h1.2⟩, h2.grown hp (by decide) hg, h3⟩
def SumAt (w : World) (N : Nat) (f : Nat) (t : Int) : Prop := ∃ v, Cells4 w N v (decide (t < 0)) f true ∧ Mag w v t ∧ Good f t
theorem SumAt.lt {w : World} {N f : Nat} {t : Int} (h : SumAt w N f t) : N < w.heap.size := by obtain ⟨v, h, -⟩ := h; exact h.lt
theorem SumAt.good {w : World} {N f : Nat} {t : Int} (h : SumAt w N f t) : Good f t := by obtain ⟨v, -, -, h⟩ := h; exact h
theorem SumAt.below {w w' : World} {N f : Nat} {t : Int} (h : SumAt w N f t) (hb : Below w.heap.size w w') : SumAt w' N f t := by
  obtain ⟨v, h1, h2, h3⟩ := h
  exact ⟨v, h1.below hb, h2.below hb, h3⟩
/-- A sum stays as it is where another one is changed. -/
theorem SumAt.grown {w w' : World} {M f : Nat} {t : Int} {N g : Nat} {u : Int} (h : SumAt w M f t) (k : SumAt w N g u) (hne : M ≠ N) (hg : w.grownBy w' (some N)) : SumAt w' M f t := by
  obtain ⟨v, h1, h2, h3⟩ := h
  obtain ⟨x, k1, -⟩ := k
  refine ⟨v, ?_, h2.grown k1 hg, h3⟩
  unfold Cells4
  rw [hg.block M h1.lt (by simpa using hne)]; exact h1
theorem IsNum.sum {w w' : World} {v : Value} {z : Int} {N g : Nat} {u : Int} (h : IsNum w v z) (k : SumAt w N g u) (hg : w.grownBy w' (some N)) : IsNum w' v z := by
  obtain ⟨x, k1, -⟩ := k
  exact h.grown k1 (by decide) hg
theorem mag_zero {w : World} : Mag w (.slice none 0 0) 0 := ⟨[], WList.nil, Typed.none, .inl rfl, by simp [wv, wvN]⟩
theorem grown_below {w w' : World} (hb : Below w.heap.size w w') (row : Option Nat) : w.grownBy w' row := ⟨hb.os, hb.tape, hb.output, hb.size, fun k hk _ => hb.block k hk⟩
theorem grown_then {a b c : World} {N : Nat} (h : a.grownBy b (some N)) (k : b.grownBy c (some N)) : a.grownBy c (some N) :=
  ⟨k.os.trans h.os, k.tape.trans h.tape, k.output.trans h.output, Nat.le_trans h.size k.size, fun i hi hn => (k.block i (Nat.lt_of_lt_of_le hi h.size) hn).trans (h.block i hi hn)⟩
theorem grown_set (w : World) (N j : Nat) (u : Value) : w.grownBy (w.setCell ⟨N, j, none⟩ u) (some N) :=
  ⟨rfl, rfl, rfl, by simp [World.setCell], fun k _ hn => Below.heap_setCell _ _ _ _ (by simpa using hn)⟩
theorem grown_drew {w w' : World} {row : Option Nat} (h : w.grownBy w' row) : w.grownBy w'.drew row := ⟨h.os, h.tape, h.output, h.size, h.block⟩
theorem Cells4.set {w : World} {N : Nat} {v : Value} {b m : Bool} {f : Nat} (h : Cells4 w N v b f m) (v' : Value) (b' : Bool) (f' : Nat) :
    Cells4 (((w.setCell ⟨N, 1, none⟩ (.bool b')).setCell ⟨N, 0, none⟩ v').setCell ⟨N, 2, none⟩ (.int .u8 f')) N v' b' f' m := by
  unfold Cells4 at *
  simp [World.setCell, Array.getElem?_modify, h]
theorem xnew_any (w : World) : Calls Tryd.prog 10 #[] w fun e w' => e = .returned (.pointer (some ⟨w.heap.size, 0, none⟩)) ∧ w' = w.alloc (.cells #[.slice none 0 0, .bool false, .int .u8 0, .bool true] 60) := by
  go_enter Tryd.func10, Tryd.ntmps10
  go_wp2_with fail
  go_ret
  exact ⟨rfl, rfl⟩
theorem sum_new (w : World) : SumAt (w.alloc (.cells #[.slice none 0 0, .bool false, .int .u8 0, .bool true] 60)) w.heap.size 0 0 := ⟨_, Cells4.new w _ _ _ _, mag_zero, good_zero⟩
theorem usable_any (w : World) (N : Nat) (v : Value) (b m : Bool) (f : Nat) (h : Cells4 w N v b f m) :
    Calls Tryd.prog 38 #[.pointer (some ⟨N, 0, none⟩)] w fun e w' => e = .returned (.bool m) ∧ w = w' := by
  obtain ⟨r0, r1, r2, r3⟩ := h.reads
  clear h
  go_enter Tryd.func38, Tryd.ntmps38
  go_wp2_with fail
  go_ret
  exact ⟨rfl, rfl⟩
theorem usable_nil (w : World) : Calls Tryd.prog 38 #[.pointer none] w fun e w' => e = .returned (.bool false) ∧ w = w' := by
  go_enter Tryd.func38, Tryd.ntmps38
  go_wp2_with fail
  go_ret
  exact ⟨rfl, rfl⟩
theorem and_u8_nat (a b : Nat) (ha : a < 256) (hb : b < 256) : bits .and .u8 (a : Int) (b : Int) = ((a &&& b : Nat) : Int) := by
  have hx : a &&& b < 256 := Nat.lt_of_le_of_lt Nat.and_le_left ha
  show IntKind.u8.wrap ((BitVec.ofInt 8 (a : Int) &&& BitVec.ofInt 8 (b : Int)).toNat : Int) = _
  have e : ∀ c : Nat, c < 256 → (BitVec.ofInt 8 (c : Int)).toNat = c := fun c hc => by
    rw [BitVec.toNat_ofInt]; simp; omega
  rw [BitVec.toNat_and, e a ha, e b hb]
  simp [IntKind.wrap, IntKind.bits, IntKind.signed]; omega
theorem or_u8_nat (a b : Nat) (ha : a < 256) (hb : b < 256) : bits .or .u8 (a : Int) (b : Int) = ((a ||| b : Nat) : Int) := by
  have hx : a ||| b < 256 := Nat.or_lt_two_pow (n := 8) ha hb
  show IntKind.u8.wrap ((BitVec.ofInt 8 (a : Int) ||| BitVec.ofInt 8 (b : Int)).toNat : Int) = _
  have e : ∀ c : Nat, c < 256 → (BitVec.ofInt 8 (c : Int)).toNat = c := fun c hc => by
    rw [BitVec.toNat_ofInt]; simp; omega
  rw [BitVec.toNat_or, e a ha, e b hb]
  simp [IntKind.wrap, IntKind.bits, IntKind.signed]; omega
theorem has_any (w : World) (N : Nat) (v : Value) (b m : Bool) (f : Nat) (h : Cells4 w N v b f m) (hf : f < 32) (k : Nat) (hk : k < 256) (r : Bool) (hr : (((f &&& k : Nat) : Int) != 0) = r) :
    Calls Tryd.prog 39 #[.pointer (some ⟨N, 0, none⟩), .int .u8 k] w fun e w' => e = .returned (.bool r) ∧ w = w' := by
  obtain ⟨r0, r1, r2, r3⟩ := h.reads
  have ha := and_u8_nat f k (by omega) hk
  clear h
  go_enter Tryd.func39, Tryd.ntmps39
  go_wp2_with fail
  go_ret
  exact ⟨ret_bool (by rw [← hr]), rfl⟩
end Go.Proofs.YtboinjkeaffboaaDoor
