/- Layer 17: the program's Between; pure facts of sets within sets. -/
import Derived.Test.YtdopgpijbilffaaLati
import Derived.OwnWalk
namespace Go.Proofs.Ytdopgpijbilffaa
set_option maxRecDepth 100000
open Go.RowKit
set_option linter.unusedVariables false
theorem sub_halves {a b : Nat} (h : subN a b = true) : subN (a / 2) (b / 2) = true ∧ a % 2 ≤ b % 2 := by
  rw [subN_iff, and_low] at h
  have hb : a % 2 * (b % 2) = a % 2 ∧ a / 2 &&& b / 2 = a / 2 := by
    have : a % 2 * (b % 2) ≤ 1 := Nat.mul_le_mul (show a % 2 ≤ 1 by omega) (show b % 2 ≤ 1 by omega)
    omega
  refine ⟨subN_iff.2 hb.2, ?_⟩
  have h1 := hb.1
  rcases Nat.mod_two_eq_zero_or_one b with q | q
  · rw [q] at h1; omega
  · omega
theorem andNot_minus : ∀ k a b, b < 2 ^ k → subN a b = true → b &&& (2 ^ k - 1 - a) = b - a
  | 0, a, b, hb, hs => by
    have h := subN_le hs
    have e : b = 0 := by simpa using hb
    subst e
    have : a = 0 := by omega
    subst this
    rfl
  | k + 1, a, b, hb, hs => by
    have hle := subN_le hs
    obtain ⟨h1, h2⟩ := sub_halves hs
    rw [Nat.pow_succ] at hb ⊢
    have ih := andNot_minus k (a / 2) (b / 2) (by omega) h1
    have hle2 := subN_le h1
    rw [and_low]
    have e1 : (2 ^ k * 2 - 1 - a) / 2 = 2 ^ k - 1 - a / 2 := by omega
    have e2 : (2 ^ k * 2 - 1 - a) % 2 = 1 - a % 2 := by omega
    rw [e1, e2, ih]
    rcases Nat.mod_two_eq_zero_or_one b with q | q
    · rw [q] at h2 ⊢; omega
    · rw [q]; omega
theorem andNot17 {a b : Nat} (ha : a < 4294967296) (hb : b < 4294967296) (hs : subN a b = true) : bits .andNot .u32 (b : Int) (a : Int) = ((b - a : Nat) : Int) := by
  rw [u32_andNot b a (by omega) (by omega) (by omega) (by omega)]
  simp only [Int.toNat_natCast]
  exact congrArg (fun x : Nat => (x : Int)) (andNot_minus 32 a b hb hs)
theorem cnt_minus : ∀ k a b, subN a b = true → cntN k (b - a) + cntN k a = cntN k b
  | 0, _, _, _ => rfl
  | k + 1, a, b, hs => by
    have hle := subN_le hs
    obtain ⟨h1, h2⟩ := sub_halves hs
    have ih := cnt_minus k (a / 2) (b / 2) h1
    have hle2 := subN_le h1
    show (b - a) % 2 + cntN k ((b - a) / 2) + (a % 2 + cntN k (a / 2)) = b % 2 + cntN k (b / 2)
    have e1 : (b - a) / 2 = b / 2 - a / 2 := by omega
    rw [e1]
    omega
theorem or_add : ∀ k a c, a < 2 ^ k → c < 2 ^ k → a &&& c = 0 → a ||| c = a + c
  | 0, a, c, ha, hc, h => by
    have e : a = 0 := by simpa using ha
    have e2 : c = 0 := by simpa using hc
    subst e e2
    rfl
  | k + 1, a, c, ha, hc, h => by
    rw [Nat.pow_succ] at ha hc
    rw [and_low] at h
    have h1 : a / 2 &&& c / 2 = 0 := by omega
    have h2 : a % 2 * (c % 2) = 0 := by omega
    have ih := or_add k (a / 2) (c / 2) (by omega) (by omega) h1
    have e1 : (a ||| c) / 2 = a / 2 ||| c / 2 := Nat.or_div_two
    have e2 : (a ||| c) % 2 = a % 2 + c % 2 := by
      have h3 : (a ||| c) % 2 = 1 ↔ a % 2 = 1 ∨ c % 2 = 1 := Nat.or_mod_two_eq_one
      rcases Nat.mod_two_eq_zero_or_one a with p | p <;> rcases Nat.mod_two_eq_zero_or_one c with q | q <;> rw [p, q] at h2 h3 ⊢ <;> omega
    omega
/-- A subset of what is free has nothing in common with what is not. -/
theorem free_apart : ∀ k a b c, b < 2 ^ k → subN a b = true → subN c (b - a) = true → a &&& c = 0
  | 0, a, b, c, hb, hs, hc => by
    have h := subN_le hs
    have e : b = 0 := by simpa using hb
    have : a = 0 := by omega
    subst this
    simp
  | k + 1, a, b, c, hb, hs, hc => by
    have hle := subN_le hs
    obtain ⟨h1, h2⟩ := sub_halves hs
    obtain ⟨h3, h4⟩ := sub_halves hc
    have hle2 := subN_le h1
    rw [Nat.pow_succ] at hb
    have e1 : (b - a) / 2 = b / 2 - a / 2 := by omega
    have e2 : (b - a) % 2 = b % 2 - a % 2 := by omega
    rw [e1] at h3
    rw [e2] at h4
    have ih := free_apart k (a / 2) (b / 2) (c / 2) (by omega) h1 h3
    rw [and_low, ih]
    rcases Nat.mod_two_eq_zero_or_one a with q | q
    · rw [q]; omega
    · rw [q] at h4 ⊢
      have : c % 2 = 0 := by omega
      rw [this]
theorem or17 {a b c : Nat} (ha : a < 4294967296) (hb : b < 4294967296) (hs : subN a b = true) (hc : subN c (b - a) = true) : bits .or .u32 (a : Int) (c : Int) = ((a + c : Nat) : Int) ∧ a + c < 4294967296 := by
  have hle := subN_le hs
  have hle2 := subN_le hc
  refine ⟨?_, by omega⟩
  rw [u32_or a c (by omega) (by omega) (by omega) (by omega)]
  simp only [Int.toNat_natCast]
  exact congrArg (fun x : Nat => (x : Int)) (or_add 32 a c ha (by show c < 4294967296; omega) (free_apart 32 a b c hb hs hc))
theorem next17 {f c : Nat} (hf : f < 4294967296) (hc : c < 4294967296) : bits .and .u32 (((c : Int) - (f : Int)) % 4294967296) (f : Int) = ((nextN 32 f c : Nat) : Int) ∧ nextN 32 f c < 4294967296 := by
  have e : ((c : Int) - (f : Int)) % 4294967296 = (((c + 2 ^ 32 - f) % 2 ^ 32 : Nat) : Int) := by omega
  have h1 : (c + 2 ^ 32 - f) % 2 ^ 32 < 4294967296 := Nat.mod_lt _ (by decide)
  rw [e, and17 h1 hf]
  exact ⟨rfl, and_lt32 _ h1⟩
theorem bet_get {a b j : Nat} (hj : j < 2 ^ cntN 32 (b - a)) : (betN a b).getD j 0 = a + depN 32 (b - a) j := by
  unfold betN
  rw [List.getD_eq_getElem?_getD, List.getElem?_map, List.getElem?_range hj]
  rfl
theorem bet_len (a b : Nat) : (betN a b).length = 2 ^ cntN 32 (b - a) := by simp [betN]
/-- Block V holds just these cells. -/
def RowE (w : World) (V : Nat) (E : TypeId) (xs : List Value) : Prop := w.heap[V]? = some (.cells xs.toArray E (0, 0))
theorem RowE.keep {w w' : World} {V : Nat} {E : TypeId} {xs : List Value} (h : RowE w V E xs) (hb : Below w.heap.size w w') : RowE w' V E xs := (hb.block _ (Array.getElem?_eq_some_iff.1 h).1).trans h
theorem RowE.set {w : World} {V i : Nat} {E : TypeId} {xs : List Value} (h : RowE w V E xs) (u : Value) : RowE (w.setCell ⟨V, i, none⟩ u) V E (xs.set i u) := by
  unfold RowE at *
  have e : (xs.set i u).toArray = xs.toArray.setIfInBounds i u := by rw [List.setIfInBounds_toArray]
  rw [e]
  simp [World.setCell, Array.getElem?_modify, h]
theorem RowE.at {w : World} {V i : Nat} {E : TypeId} {xs : List Value} (h : RowE w V E xs) (hi : i < xs.length) : w.cell? ⟨V, i, none⟩ = some (xs.getD i undef) ∧ w.frozen? ⟨V, i, none⟩ = false := by
  unfold RowE at h
  exact ⟨by simp [World.cell?, h, List.getD, hi], by simp [World.frozen?, h]⟩
theorem RowE.own {w : World} {B V : Nat} {E : TypeId} {xs : List Value} (h : RowE w V E xs) (hB : B ≤ V) (hl : xs.length ≤ 1000000) : w.ownsRow B E 1 (.slice (some ⟨V, 0, none⟩) xs.length xs.length) xs.length xs :=
  ⟨by simp, .inr ⟨V, xs.length, _, rfl, hB, h, Nat.le_refl _, by unfold maxLen; omega, by simp, by rw [Nat.mul_one]; exact List.take_of_length_le (by simp)⟩⟩
theorem rowE_made {w : World} {V n B : Nat} {E : TypeId} {k : IntKind} (h : w.ownsRow B E 1 (.slice (some ⟨V, 0, none⟩) n n) n (madeCells (Value.int k 0).cells (n * 1)).toList) : RowE w V E (List.replicate n (.int k 0)) := by
  rw [show (Value.int k 0).cells = #[Value.int k 0] from rfl, toList_madeCells_one, Nat.mul_one] at h
  rcases h.2 with ⟨e, -⟩ | ⟨g, cap, cur, e, -, h3, -, -, h6, h7⟩
  · cases e
  · simp only [Value.slice.injEq, Option.some.injEq, Addr.mk.injEq, and_true, true_and] at e
    obtain ⟨rfl, rfl⟩ := e
    rw [List.take_of_length_le (by rw [Array.length_toList, h6]; omega)] at h7
    unfold RowE
    rw [← h7]
    exact h3
theorem natsU_set (l : List Nat) (i x : Nat) : (natsU l).set i (.int .u32 (x : Int)) = natsU (l.set i x) := by simp [natsU, List.map_set]
theorem natsU_get (l : List Nat) {i : Nat} (hi : i < l.length) : (natsU l).getD i undef = .int .u32 ((l.getD i 0 : Nat) : Int) := by simp [natsU, List.getD, hi]
theorem natsU_len (l : List Nat) : (natsU l).length = l.length := by simp [natsU]
theorem natsU_zero (n : Nat) : List.replicate n (Value.int .u32 0) = natsU (List.replicate n 0) := by simp [natsU]
theorem msk_row {w : World} {V : Nat} {zs : List Nat} (h : RowE w V 22 (natsU zs)) (hl : zs.length ≤ 1000000) : Msk w (.slice (some ⟨V, 0, none⟩) zs.length zs.length) zs := by
  have h1 := h.own (Nat.le_refl V) (by rw [natsU_len]; exact hl)
  rw [natsU_len] at h1
  exact msk_of h1
theorem getD_set17 (l : List Nat) (i x j : Nat) (hi : i < l.length) : (l.set i x).getD j 0 = if j = i then x else l.getD j 0 := by
  simp only [List.getD_eq_getElem?_getD, List.getElem?_set]
  by_cases h : i = j
  · subst h; simp [hi]
  · rw [if_neg h, if_neg (fun e => h e.symm)]
theorem list_ext17 {l m : List Nat} (h1 : l.length = m.length) (h2 : ∀ j, j < l.length → l.getD j 0 = m.getD j 0) : l = m := by
  refine List.ext_getElem h1 fun j hj hk => ?_
  have := h2 j hj
  simpa [List.getD, hj, hk] using this
/-- What Between hands back. -/
def BetP (w : World) (a b : Nat) (e : Ending) (w' : World) : Prop :=
  (if subN a b = true then (if cntN 32 (b - a) ≤ 12 then ∃ v, e = .returned (.tuple #[v, .int .i64 0]) ∧ (∃ p c, v = .slice p (betN a b).length c) ∧ Msk w' v (betN a b) else e = .returned (.tuple #[.slice none 0 0, .int .i64 3])) else e = .returned (.tuple #[.slice none 0 0, .int .i64 1])) ∧ Below w.heap.size w w'
theorem betP_ok {w : World} {a b : Nat} (hs : subN a b = true) (hc : cntN 32 (b - a) ≤ 12) : BetP w a b = fun e w' => (∃ v, e = .returned (.tuple #[v, .int .i64 0]) ∧ (∃ p c, v = .slice p (betN a b).length c) ∧ Msk w' v (betN a b)) ∧ Below w.heap.size w w' := by
  funext e w'
  unfold BetP
  rw [if_pos hs, if_pos hc]
theorem betP_many {w : World} {a b : Nat} (hs : subN a b = true) (hc : ¬ cntN 32 (b - a) ≤ 12) : BetP w a b = fun e w' => e = .returned (.tuple #[.slice none 0 0, .int .i64 3]) ∧ Below w.heap.size w w' := by
  funext e w'
  unfold BetP
  rw [if_pos hs, if_neg hc]
theorem betP_no {w : World} {a b : Nat} (hs : ¬ subN a b = true) : BetP w a b = fun e w' => e = .returned (.tuple #[.slice none 0 0, .int .i64 1]) ∧ Below w.heap.size w w' := by
  funext e w'
  unfold BetP
  rw [if_neg hs]
set_option maxHeartbeats 8000000 in
theorem pbetween_any (w : World) (a b : Nat) (ha : a < 4294967296) (hb : b < 4294967296) :
    Calls Try.prog 7 #[.int .u32 a, .int .u32 b] w (BetP w a b) := by
  have H1 := Lib.hid (fun w => psub_any w a b ha hb)
  by_cases hs : subN a b = true
  · rw [hs] at H1
    have hf := andNot17 ha hb hs
    have hfl : b - a < 4294967296 := by omega
    have H2 := Lib.hid (fun w => pcount_any w (b - a) hfl)
    by_cases hc : cntN 32 (b - a) ≤ 12
    · obtain ⟨i0, hi, hz0, hz1, hz2⟩ := info_parts infoU32
      have HO := Lib.hid (fun c hc => @or17 a b c ha hb hs hc)
      have HN := Lib.hid (fun c hc => @next17 (b - a) c hfl hc)
      have HD := Lib.hid (fun j hj => dep_next 32 (b - a) j hfl hj)
      have HDS := Lib.hid (fun j => dep_sub 32 (b - a) j)
      have HDL := Lib.hid (fun j => show depN 32 (b - a) j < 4294967296 from dep_lt 32 (b - a) j)
      have HG := Lib.hid (fun j (hj : j < 2 ^ cntN 32 (b - a)) => @bet_get a b j hj)
      have HL := Lib.hid (bet_len a b)
      have HDZ := Lib.hid (dep_zero 32 (b - a))
      have hP := pow12 hc
      have hP0 : 0 < 2 ^ cntN 32 (b - a) := Nat.pow_pos (by decide)
      have hwr : wrap64 ((2 : Int) ^ cntN 32 (b - a)) = ((2 ^ cntN 32 (b - a) : Nat) : Int) := by
        rw [← pow_cast]
        unfold wrap64
        omega
      rw [betP_ok hs hc]
      generalize betN a b = Z at *
      generalize cntN 32 (b - a) = c at *
      have hc' : ¬ (12 : Int) < (c : Int) := by omega
      generalize 2 ^ c = n at *
      generalize b - a = f at *
      clear hs
      go_enter Try.func7, Try.ntmps7
      go_wp2_with fail
      refine (H1.out _).mono ?_; rintro e w1 ⟨rfl, rfl⟩
      go_wp2_with fail
      refine (H2.out _).mono ?_; rintro e w1 ⟨rfl, hd⟩
      have HB1 := Lib.hid hd.below
      clear hd
      go_wp2_with fail
      refine (H2.out _).mono ?_; rintro e w2 ⟨rfl, hd⟩
      have HB2 := Lib.hid (below_then HB1.out hd.below)
      have hs2 := HB2.out.size
      clear hd HB1
      go_wp2_with (at_make; refine wpList_make_full _ rfl _ _ 23 rfl w2.heap.size 22 i0 (.int .u32 0) 1 Try.underlying23 hi hz0 hz1 .i64 .i64 _ _ n rfl rfl (by first | rfl | exact hwr) (by first | rfl | exact hwr) (by rw [hz2]; omega) (by unfold maxLen; omega) (Nat.le_refl _) ?_; intro w3 hown hgrow; have HR0 := Lib.hid (rowE_made hown); have HB3 := Lib.hid (below_then HB2.out (show Below w2.heap.size w2 w3 from ⟨hgrow.os, hgrow.tape, hgrow.output, hgrow.size, fun j hj => hgrow.block j hj (by simp)⟩)); clear hown hgrow)
      generalize hV : w2.heap.size = V at *
      clear HB2 hV
      go_loopw [26, 8] (fun iv cv wr => ∃ (k : Nat) (c : Nat), k ≤ n ∧ iv = .int .i64 k ∧ cv = .int .u32 c ∧ c < 4294967296 ∧ Hid (k < n → c = depN 32 f k) ∧ Hid (∃ zs : List Nat, zs.length = n ∧ RowE wr V 22 (natsU zs) ∧ ∀ j, j < k → zs.getD j 0 = Z.getD j 0) ∧ Hid (Below w.heap.size w wr)) (fun iv _ _ => n - (intOf iv).toNat)
      case atStart => exact ⟨0, 0, Nat.zero_le _, rfl, rfl, by decide, Lib.hid (fun _ => HDZ.out.symm), Lib.hid ⟨List.replicate n 0, List.length_replicate, by rw [← natsU_zero]; exact HR0.out, fun j hj => by omega⟩, HB3⟩
      case round =>
        obtain ⟨k, d, hk, rfl, rfl, hd, HC, HZ, HW⟩ := hrel
        by_cases hlt : k < n
        · have hlt' : (k : Int) < (n : Int) := by omega
          obtain ⟨zs, hzl, hrow, hzs⟩ := HZ.out
          have hat := hrow.at (i := k) (by rw [natsU_len]; omega)
          rw [natsU_get zs (by omega)] at hat
          obtain ⟨hc1, hf1⟩ := hat
          have hdep := HC.out hlt
          obtain ⟨ho1, ho2⟩ := HO.out d (by rw [hdep]; exact HDS.out k)
          obtain ⟨hn1, hn2⟩ := HN.out d hd
          have HZ2 := Lib.hid (show ∃ zs : List Nat, zs.length = n ∧ RowE (wr.setCell ⟨V, k, none⟩ (.int .u32 ((a + d : Nat) : Int))) V 22 (natsU zs) ∧ ∀ j, j < k + 1 → zs.getD j 0 = Z.getD j 0 from
            ⟨zs.set k (a + d), by rw [List.length_set]; exact hzl, by rw [← natsU_set]; exact hrow.set _, fun j hj => by
              rw [getD_set17 zs k (a + d) j (by omega)]
              by_cases e : j = k
              · rw [if_pos e, e, HG.out k hlt, hdep]
              · rw [if_neg e]; exact hzs j (by omega)⟩)
          have HC2 := Lib.hid (show k + 1 < n → nextN 32 f d = depN 32 f (k + 1) from fun h => by rw [hdep]; exact HD.out k h)
          have HW2 := Lib.hid (show Below w.heap.size w (wr.setCell ⟨V, k, none⟩ (.int .u32 ((a + d : Nat) : Int))) from HW.out.setCell (p := ⟨V, k, none⟩) hs2 _)
          clear hdep hrow hzs hzl HC HZ HW
          generalize a + d = x at *
          generalize nextN 32 f d = y at *
          go_wp2_with fail
          go_roundw
          case rel => exact ⟨k + 1, y, by omega, by go_num, rfl, hn2, HC2, HZ2, HW2⟩
          case measure => simp [intOf]; omega
        · have hkn : k = n := by omega
          subst hkn
          have hlt' : ¬ (k : Int) < (k : Int) := by omega
          obtain ⟨zs, hzl, hrow, hzs⟩ := HZ.out
          have HE := Lib.hid (show zs = Z from list_ext17 (by rw [hzl, HL.out]) (fun j hj => hzs j (hzl ▸ hj)))
          have HX := Lib.hid (msk_row hrow (by rw [hzl]; exact Nat.le_trans hP (by decide)))
          have HZL := Lib.hid hzl
          clear hrow hzs hzl HZ
          go_wp2_with fail
          go_ret2
          rw [← HE.out]
          have h1 := HX.out
          rw [HZL.out] at h1
          exact ⟨⟨.slice (some ⟨V, 0, none⟩) k k, rfl, ⟨_, _, by rw [HZL.out]⟩, h1⟩, HW.out⟩
    · rw [betP_many hs hc]
      have hc' : (12 : Int) < ((cntN 32 (b - a) : Nat) : Int) := by omega
      generalize cntN 32 (b - a) = c at *
      generalize b - a = f at *
      clear hs hc
      go_enter Try.func7, Try.ntmps7
      go_wp2_with fail
      refine (H1.out _).mono ?_; rintro e w1 ⟨rfl, rfl⟩
      go_wp2_with fail
      refine (H2.out _).mono ?_; rintro e w1 ⟨rfl, hd⟩
      have HB1 := Lib.hid hd.below
      clear hd
      go_wp2_with fail
      go_ret2
      exact ⟨rfl, HB1.out⟩
  · have hs2 := eq_false_of_ne_true hs
    rw [betP_no hs]
    rw [hs2] at H1
    clear hs hs2
    go_enter Try.func7, Try.ntmps7
    go_wp2_with fail
    refine (H1.out _).mono ?_; rintro e w1 ⟨rfl, rfl⟩
    go_wp2_with fail
    go_ret2
    exact ⟨rfl, Below.refl _ _⟩
end Go.Proofs.Ytdopgpijbilffaa
