/- Plain facts on long division of digits of base 1000; and an append of a list that is read elsewhere. -/
import Derived.Test.YtdnbjaeeebodkaaGreatMul
import Derived.Deep.RegionLawGrows
namespace Go.Proofs.YtdnbjaeeebodkaaGreat
set_option maxRecDepth 100000
open Go.RowKit
theorem valN_cons (y : Int) (l : List Int) (n : Nat) : valN (y :: l) (n + 1) = y + 1000 * valN l n := by
  induction n with
  | zero => simp [valN, List.getD]
  | succ n ih =>
    rw [valN, ih, valN, p_succ]
    have : (y :: l).getD (n + 1) 0 = l.getD n 0 := by simp [List.getD]
    rw [this]
    have e : 1000 * (l.getD n 0 * 1000 ^ n) = l.getD n 0 * (1000 ^ n * 1000) := by rw [← Int.mul_assoc, Int.mul_comm 1000, Int.mul_assoc, Int.mul_comm 1000]
    rw [Int.mul_add]; omega
theorem val_cons (y : Int) (l : List Int) : val (y :: l) = y + 1000 * val l := by
  rw [val, List.length_cons, valN_cons]; rfl
theorem Dig.cons {l : List Int} (h : Dig l) {y : Int} (h1 : 0 ≤ y) (h2 : y ≤ 999) : Dig (y :: l) := by
  intro x hx
  rcases List.mem_cons.1 hx with rfl | hx
  · exact ⟨h1, h2⟩
  · exact h x hx
/-- Long division: the digits from i on are done. -/
def DivRel (a q : List Int) (B : Int) (i : Nat) (r : Int) : Prop :=
  ∃ X Q : Int, val a = valN a i + 1000 ^ i * X ∧ val q = 1000 ^ i * Q ∧ X = Q * B + r ∧ 0 ≤ r ∧ r < B ∧ Dig q ∧ q.length = a.length ∧ (∀ j, j < i → q.getD j 0 = 0) ∧ 0 ≤ Q
theorem DivRel.start (a : List Int) {B : Int} (hB : 0 < B) : DivRel a (List.replicate a.length 0) B a.length 0 := by
  refine ⟨0, 0, by simp [val], by rw [val_replicate]; simp, by simp, by omega, hB, fun x hx => ?_, by simp, fun j _ => ?_, by omega⟩
  · have := List.eq_of_mem_replicate hx; omega
  · simp [List.getD, List.getElem?_replicate]; split <;> simp
theorem DivRel.step {a q : List Int} {B r : Int} {m : Nat} (h : DivRel a q B (m + 1) r) (hm : m < a.length) (y t : Int) (hy : a.getD m 0 = y) (t0 : 0 ≤ t) (t1 : t ≤ 999) (h1 : t * B ≤ r * 1000 + y) (h2 : r * 1000 + y < (t + 1) * B) :
    DivRel a (q.set m t) B m (r * 1000 + y - t * B) := by
  obtain ⟨X, Q, e1, e2, e3, e4, e5, e6, e7, e8, e9⟩ := h
  have hl : m < q.length := by omega
  rw [Int.add_mul] at h2
  refine ⟨X * 1000 + y, Q * 1000 + t, ?_, ?_, ?_, by omega, by omega, e6.set t0 t1, by simp [e7], fun j hj => ?_, by omega⟩
  · rw [valN, p_succ, hy] at e1
    have q1 : 1000 ^ m * 1000 * X = 1000 ^ m * (X * 1000) := by rw [Int.mul_assoc, Int.mul_comm 1000 X]
    have q2 : 1000 ^ m * (X * 1000 + y) = 1000 ^ m * (X * 1000) + 1000 ^ m * y := Int.mul_add _ _ _
    have q3 : y * 1000 ^ m = 1000 ^ m * y := Int.mul_comm _ _
    omega
  · rw [val_set hl, e8 m (by omega), e2, p_succ]
    have q1 : 1000 ^ m * 1000 * Q = 1000 ^ m * (Q * 1000) := by rw [Int.mul_assoc, Int.mul_comm 1000 Q]
    have q2 : 1000 ^ m * (Q * 1000 + t) = 1000 ^ m * (Q * 1000) + 1000 ^ m * t := Int.mul_add _ _ _
    have q3 : (t - 0) * 1000 ^ m = 1000 ^ m * t := by rw [Int.sub_zero, Int.mul_comm]
    omega
  · have q1 : (Q * 1000 + t) * B = Q * B * 1000 + t * B := by rw [Int.add_mul, Int.mul_assoc, Int.mul_comm 1000 B, ← Int.mul_assoc]
    rw [q1, e3]; omega
  · rw [getD_set hl, if_neg (by omega)]; exact e8 j (by omega)
theorem set_zero {q : List Int} {m : Nat} (h : q.getD m 0 = 0) : q.set m 0 = q := by
  apply List.ext_getElem?
  intro i
  rw [List.getElem?_set]
  by_cases e : m = i
  · subst e
    by_cases hl : m < q.length
    · simp [hl]; simp [List.getD, hl] at h; exact h.symm
    · simp [hl]
  · simp [e]
/-- A digit of 0: the list stays. -/
theorem DivRel.skip {a q : List Int} {B r : Int} {m : Nat} (h : DivRel a q B (m + 1) r) (hm : m < a.length) (y : Int) (hy : a.getD m 0 = y) (y0 : 0 ≤ y) (h2 : r * 1000 + y < B) : DivRel a q B m (r * 1000 + y) := by
  have hr : 0 ≤ r := by obtain ⟨_, _, _, _, _, e4, _⟩ := h; exact e4
  have hz : q.getD m 0 = 0 := by obtain ⟨_, _, _, _, _, _, _, _, _, e8, _⟩ := h; exact e8 m (by omega)
  have := h.step hm y 0 hy (by omega) (by omega) (by omega) (by omega)
  rw [set_zero hz] at this
  simpa using this
theorem DivRel.first {a q : List Int} {B r : Int} {m : Nat} (h : DivRel a q B m r) {y : Int} (y1 : y ≤ 999) : r * 1000 + y < (999 + 1) * B := by
  obtain ⟨_, _, _, _, _, e4, e5, _⟩ := h
  rw [show ((999 : Int) + 1) = 1000 from rfl]; omega
theorem DivRel.stop {a q : List Int} {B r : Int} (h : DivRel a q B 0 r) : val a = val q * B + r ∧ 0 ≤ r ∧ r < B ∧ Dig q ∧ q.length = a.length ∧ 0 ≤ val q := by
  obtain ⟨X, Q, e1, e2, e3, e4, e5, e6, e7, e8, e9⟩ := h
  simp [valN] at e1 e2
  rw [e2, e1, e3]
  exact ⟨rfl, e4, e5, e6, e7, e9⟩
/-- The floor out of the absolute values' quotient and remainder. -/
theorem floor_signed (b1 b2 : Bool) (A B Q r : Int) (h : A = Q * B + r) (h0 : 0 ≤ r) (h1 : r < B) :
    (b1 = b2 → (signed b1 A).fdiv (signed b2 B) = Q ∧ signed b1 A - Q * signed b2 B = (signed b1 A).fmod (signed b2 B)) ∧
    (b1 ≠ b2 → r = 0 → (signed b1 A).fdiv (signed b2 B) = -Q ∧ signed b1 A - -Q * signed b2 B = (signed b1 A).fmod (signed b2 B)) ∧
    (b1 ≠ b2 → 0 < r → (signed b1 A).fdiv (signed b2 B) = -Q - 1 ∧ signed b1 A - (-Q - 1) * signed b2 B = (signed b1 A).fmod (signed b2 B)) := by
  have key : ∀ x : Int, (0 < signed b2 B → 0 ≤ signed b1 A - x * signed b2 B ∧ signed b1 A - x * signed b2 B < signed b2 B) → (signed b2 B < 0 → signed b2 B < signed b1 A - x * signed b2 B ∧ signed b1 A - x * signed b2 B ≤ 0) → signed b2 B ≠ 0 →
      (signed b1 A).fdiv (signed b2 B) = x ∧ signed b1 A - x * signed b2 B = (signed b1 A).fmod (signed b2 B) := fun x p1 p2 p3 => by
    have := floor_unique (signed b1 A) (signed b2 B) x (signed b1 A - x * signed b2 B) (by rw [Int.mul_comm (signed b2 B) x]; omega) p1 p2 p3
    exact ⟨this.1, this.2.symm⟩
  have eQ : Q * -B = -(Q * B) := Int.mul_neg _ _
  have eN : -Q * B = -(Q * B) := Int.neg_mul _ _
  have eNN : -Q * -B = Q * B := Int.neg_mul_neg _ _
  have eM : (-Q - 1) * B = -(Q * B) - B := by rw [Int.sub_mul, Int.neg_mul]; omega
  have eMN : (-Q - 1) * -B = Q * B + B := by rw [Int.sub_mul, Int.neg_mul_neg]; omega
  subst h
  generalize hP : Q * B = P at *
  cases b1 <;> cases b2
  all_goals refine ⟨fun e => ?_, fun e e2 => ?_, fun e e2 => ?_⟩
  all_goals first
    | (exfalso; simp at e; done)
    | (apply key <;> simp only [signed, cond_true, cond_false, hP, eQ, eN, eNN, eM, eMN] <;> (try intro _) <;> omega)
section
variable {P : Program} (w : World)
theorem run_append_nil (base : Nat) (t ty e : TypeId) (i : TypeInfo) (size : Nat) (ht : P.underlying t = some (.slice e)) (hi : P.info? e = some i)
    (v : Value) (n : Nat) (xs : List Value) (hown : w.ownsRow base e size v n xs) (c : Nat) : (Builtin.append_ #[t, t] ty #[v, .slice none 0 c]).run P w = .ok v w := by
  rcases hown.2 with ⟨rfl, rfl⟩ | ⟨g, cap, cur, rfl, _, _, hnc, _⟩
  · simp [Builtin.append_, run_underlying ht, sizeOf, typeInfo, hi, Builtin.lenOf, Builtin.firstCells]
  · simp [Builtin.append_, run_underlying ht, sizeOf, typeInfo, hi, Builtin.lenOf, Builtin.firstCells, hnc, storeCells]
/-- An append of integers that are read elsewhere (nil and empty among them) to a row of the call's own. -/
theorem run_append_ints (base : Nat) (t ty e : TypeId) (i : TypeInfo) (z : Value) (bytes : Nat) (ht : P.underlying t = some (.slice e)) (hi : P.info? e = some i) (hz : i.zero = some z) (hsize : i.size = 1) (hby : i.bytes = bytes) (hzs : z.cells.size = 1)
    (k : IntKind) (v v2 : Value) (zs ns : List Int) (hown : w.ownsRow base e 1 v zs.length (zs.map (Value.int k))) (hv2 : Ints k w v2 ns) (h63 : zs.length + ns.length ≤ maxLen) (hbytes : (zs.length + ns.length) * bytes ≤ 140737488355328) (hbase : base ≤ w.heap.size) :
    ∃ v' w', (Builtin.append_ #[t, t] ty #[v, v2]).run P w = .ok v' w' ∧ w'.ownsRow base e 1 v' (zs ++ ns).length ((zs ++ ns).map (Value.int k)) ∧ w.grownBy w' v.ownBlock := by
  obtain ⟨a, cap, rfl, hc, ha⟩ := hv2
  have one : ∀ u ∈ ns.map (Value.int k), u.oneCell' = true := by
    intro u hu; obtain ⟨x, _, rfl⟩ := List.mem_map.1 hu; rfl
  have fin : ∀ (v' : Value) (w' : World), w'.ownsRow base e 1 v' (zs.length + ns.length) (zs.map (Value.int k) ++ ns.map (Value.int k)) → w'.ownsRow base e 1 v' (zs ++ ns).length ((zs ++ ns).map (Value.int k)) := fun v' w' h => by
    simpa using h
  cases a with
  | none =>
    have hn : ns = [] := by
      rcases ha with h | ⟨b, off, h, _⟩
      · exact h
      · cases h
    subst hn
    exact ⟨v, w, run_append_nil w base t ty e i 1 ht hi v _ _ hown cap, fin v w (by simpa using hown), World.grownBy.refl w _⟩
  | some ad =>
    have hnews : ∀ j u, (ns.map (Value.int k))[j]? = some u → w.cell? (ad.add j) = some u := fun j u hj => by
      rcases ha with h | ⟨b, off, h, _, hcell⟩
      · subst h; simp at hj
      · simp only [Option.some.injEq] at h
        subst h
        rw [List.getElem?_map] at hj
        obtain ⟨x, hx, rfl⟩ := Option.map_eq_some_iff.1 hj
        have hl := (List.getElem?_eq_some_iff.1 hx).1
        have hh := hcell j hl
        have e1 : ns.getD j 0 = x := by simp [List.getD, hx]
        rw [e1] at hh
        by_cases h0 : j = 0
        · subst h0; simpa [Addr.add] using hh
        · simpa [Addr.add, h0] using hh
    obtain ⟨v', w', hrun, r1, r2, _⟩ := run_append_own (P := P) w base t ty e i z 1 bytes ht hi hz hsize hby hzs (by omega) v zs.length _ hown ad ns.length cap (ns.map (Value.int k)) (by simp) hnews one h63 hbytes hbase
    exact ⟨v', w', hrun, fin v' w' r1, r2⟩
/-- The same as an operation of a region that draws its order. -/
theorem step_append_ints {ops : Array Oper} {o : Oper} {a : Act} {K : Act → World → Prop} {Q : Exit → Act → World → Prop} {E : Prop} (hgd : o.guard = none) (s x : Operand) (t : TypeId)
    (ho : o.op = .call { callee := .builtin .append, args := #[s, x], argTypes := #[t, t] })
    (base : Nat) (e : TypeId) (i : TypeInfo) (z : Value) (bytes : Nat) (ht : P.underlying t = some (.slice e)) (hi : P.info? e = some i) (hz : i.zero = some z) (hsize : i.size = 1) (hby : i.bytes = bytes) (hzs : z.cells.size = 1)
    (k : IntKind) (v v2 : Value) (zs ns : List Int) (hs : a.eval s = v) (hx : a.eval x = v2) (hown : w.ownsRow base e 1 v zs.length (zs.map (Value.int k))) (hv2 : Ints k w v2 ns) (h63 : zs.length + ns.length ≤ maxLen) (hbytes : (zs.length + ns.length) * bytes ≤ 140737488355328) (hbase : base ≤ w.heap.size)
    (h : ∀ v' w', w'.ownsRow base e 1 v' (zs ++ ns).length ((zs ++ ns).map (Value.int k)) → w.grownBy w' v.ownBlock → K (a.put o.dst v') w') :
    if Region.wanted o (yielded ops a.tmps) = true then Oper.wp P o a w K Q else E := by
  have hw : Region.wanted o (yielded ops a.tmps) = true := by simp [Region.wanted, hgd]
  rw [if_pos hw]
  obtain ⟨v', w', hrun, r1, r2⟩ := run_append_ints (P := P) w base t o.type e i z bytes ht hi hz hsize hby hzs k v v2 zs ns hown hv2 h63 hbytes hbase
  unfold Oper.wp
  simp [execOp, ho, resolve, invoke, builtin, hs, hx, hrun, Result.andThen]
  exact h v' w' r1 r2
end
end Go.Proofs.YtdnbjaeeebodkaaGreat
