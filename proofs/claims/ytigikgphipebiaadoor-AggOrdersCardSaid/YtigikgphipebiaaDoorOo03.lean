/- Contracts that the law leans on, pruned and merged: Mul Divm Natb. -/
import Derived.Deep.RegionLawGrows
import Derived.WalkKit
import Derived.WalkSpells
import Derived.WalkLawsBesides
import Derived.WalkSmall
import Derived.Deep.QuietTactic
import Derived.BigQuiet
import Derived.Lib.Hide
import Derived.OwnWalk
import Derived.Test.YtigikgphipebiaaDoorProg
import Derived.Test.YtigikgphipebiaaDoorOo01
import Derived.Test.YtigikgphipebiaaDoorOo02
/- The product of the reference's numbers: digit by digit. -/
namespace Go.Proofs.YtigikgphipebiaaDoor
set_option maxRecDepth 100000
open Go.RowKit
theorem getD_set {l : List Int} {j i : Nat} {x : Int} (h : j < l.length) : (l.set j x).getD i 0 = if i = j then x else l.getD i 0 := by
  simp only [List.getD, List.getElem?_set]
  by_cases e : j = i
  · subst e; simp [h]
  · have : ¬ i = j := fun q => e q.symm
    simp [e, this]
theorem valN_set {l : List Int} {j : Nat} {x : Int} (h : j < l.length) (n : Nat) : valN (l.set j x) n = valN l n + if j < n then (x - l.getD j 0) * 1000 ^ j else 0 := by
  induction n with
  | zero => simp [valN]
  | succ n ih =>
    rw [valN, valN, ih, getD_set h]
    by_cases e : n = j
    · subst e; simp [Int.sub_mul]; omega
    · by_cases hl : j < n
      · have : j < n + 1 := by omega
        simp [hl, this, e]; omega
      · have : ¬ j < n + 1 := by omega
        simp [hl, this, e]
theorem val_set {l : List Int} {j : Nat} {x : Int} (h : j < l.length) : val (l.set j x) = val l + (x - l.getD j 0) * 1000 ^ j := by
  rw [val, List.length_set, valN_set h, if_pos h]; rfl
theorem Dig.set {l : List Int} (hd : Dig l) {j : Nat} {x : Int} (h1 : 0 ≤ x) (h2 : x ≤ 999) : Dig (l.set j x) := by
  intro y hy
  rcases List.mem_or_eq_of_mem_set hy with h | h
  · exact hd y h
  · subst h; exact ⟨h1, h2⟩
/-- The outer loop: the first i digits of a times b; above that noughts. -/
def MulOut (a b : List Int) (i : Nat) (out : List Int) : Prop := val out = valN a i * val b ∧ Dig out ∧ out.length = a.length + b.length + 1 ∧ ∀ j, i + b.length ≤ j → out.getD j 0 = 0
/-- The inner loop. -/
def MulIn (a b : List Int) (i k : Nat) (out : List Int) (c : Int) : Prop :=
  val out + c * 1000 ^ (i + k) = valN a i * val b + a.getD i 0 * valN b k * 1000 ^ i ∧ Dig out ∧ out.length = a.length + b.length + 1 ∧ (∀ j, i + b.length ≤ j → out.getD j 0 = 0) ∧ 0 ≤ c ∧ c ≤ 999
theorem MulOut.enter {a b out : List Int} {i : Nat} (h : MulOut a b i out) : MulIn a b i 0 out 0 := by
  obtain ⟨h1, h2, h3, h4⟩ := h
  exact ⟨by simp [valN, h1], h2, h3, h4, by omega, by omega⟩
theorem val_replicate (n : Nat) : val (List.replicate n (0 : Int)) = 0 := by
  have h : val (List.replicate n (0 : Int)) = val [] := val_eq_of_same (fun i => by simp [List.getD, List.getElem?_replicate]; split <;> simp)
  rw [h]; rfl
theorem MulOut.start (a b : List Int) : MulOut a b 0 (List.replicate (a.length + b.length + 1) 0) := by
  refine ⟨by simp [valN, val_replicate], fun x hx => ?_, by simp, fun j _ => ?_⟩
  · have := List.eq_of_mem_replicate hx; omega
  · simp [List.getD, List.getElem?_replicate]; split <;> simp
theorem mul_bounds {x y : Int} (h1 : 0 ≤ x) (h2 : x ≤ 999) (h3 : 0 ≤ y) (h4 : y ≤ 999) : 0 ≤ x * y ∧ x * y ≤ 998001 := by
  refine ⟨Int.mul_nonneg h1 h3, ?_⟩
  calc x * y ≤ 999 * y := Int.mul_le_mul_of_nonneg_right h2 h3
    _ ≤ 999 * 999 := Int.mul_le_mul_of_nonneg_left h4 (by omega)
theorem MulIn.step {a b out : List Int} {i k : Nat} {c : Int} (h : MulIn a b i k out c) (ha : Dig a) (hb : Dig b) (hi : i < a.length) (hk : k < b.length) (o x y : Int) (ho : out.getD (i + k) 0 = o) (hx : a.getD i 0 = x) (hy : b.getD k 0 = y) :
    MulIn a b i (k + 1) (out.set (i + k) ((o + x * y + c) % 1000)) ((o + x * y + c) / 1000) := by
  obtain ⟨h1, h2, h3, h4, h5, h6⟩ := h
  have hj : i + k < out.length := by omega
  have o1 := h2.getD (i + k)
  have x1 := ha.getD i
  have y1 := hb.getD k
  rw [ho] at o1
  rw [hx] at x1
  rw [hy] at y1
  have hm := mul_bounds x1.1 x1.2 y1.1 y1.2
  refine ⟨?_, h2.set (by omega) (by omega), by simp [h3], fun j hj2 => ?_, by omega, by omega⟩
  · have e0 : i + (k + 1) = (i + k) + 1 := by omega
    rw [val_set hj, ho, valN, hy, e0, p_succ, hx]
    rw [hx] at h1
    have e1 := carry_step (o + x * y + c) (1000 ^ (i + k))
    have e2 : (o + x * y + c) * 1000 ^ (i + k) = o * 1000 ^ (i + k) + x * y * 1000 ^ (i + k) + c * 1000 ^ (i + k) := by rw [Int.add_mul, Int.add_mul]
    have e3 : ((o + x * y + c) % 1000 - o) * 1000 ^ (i + k) = (o + x * y + c) % 1000 * 1000 ^ (i + k) - o * 1000 ^ (i + k) := Int.sub_mul _ _ _
    have e4 : x * (valN b k + y * 1000 ^ k) * 1000 ^ i = x * valN b k * 1000 ^ i + x * y * 1000 ^ (i + k) := by
      rw [Int.mul_add, Int.add_mul, Int.pow_add, Int.mul_comm (1000 ^ i : Int) (1000 ^ k), ← Int.mul_assoc x y (1000 ^ k), Int.mul_assoc (x * y)]
    omega
  · rw [getD_set hj, if_neg (by omega)]; exact h4 j hj2
theorem MulIn.leave {a b out : List Int} {i : Nat} {c : Int} (h : MulIn a b i b.length out c) (hi : i < a.length) : MulOut a b (i + 1) (out.set (i + b.length) c) := by
  obtain ⟨h1, h2, h3, h4, h5, h6⟩ := h
  have hj : i + b.length < out.length := by omega
  refine ⟨?_, h2.set h5 h6, by simp [h3], fun j hj2 => ?_⟩
  · rw [val_set hj, h4 _ (Nat.le_refl _), valN]
    have e1 : (c - 0) * 1000 ^ (i + b.length) = c * 1000 ^ (i + b.length) := by simp
    have e2 : (valN a i + a.getD i 0 * 1000 ^ i) * val b = valN a i * val b + a.getD i 0 * valN b b.length * 1000 ^ i := by
      rw [Int.add_mul, Int.mul_assoc, Int.mul_assoc, Int.mul_comm (1000 ^ i : Int)]; rfl
    omega
  · rw [getD_set hj, if_neg (by omega)]; exact h4 j (by omega)
theorem MulOut.stop {a b out : List Int} (h : MulOut a b a.length out) : val out = val a * val b := h.1
end Go.Proofs.YtigikgphipebiaaDoor
/- Plain facts on long division of digits of base 1000; and an append of a list that is read elsewhere. -/
namespace Go.Proofs.YtigikgphipebiaaDoor
set_option maxRecDepth 100000
open Go.RowKit
theorem Dig.cons {l : List Int} (h : Dig l) {y : Int} (h1 : 0 ≤ y) (h2 : y ≤ 999) : Dig (y :: l) := by
  intro x hx
  rcases List.mem_cons.1 hx with rfl | hx
  · exact ⟨h1, h2⟩
  · exact h x hx
/-- Long division: the digits from i on are done. -/
def DivRel (a q : List Int) (B : Int) (i : Nat) (r : Int) : Prop :=
  ∃ X Q : Int, val a = valN a i + 1000 ^ i * X ∧ val q = 1000 ^ i * Q ∧ X = Q * B + r ∧ 0 ≤ r ∧ r < B ∧ Dig q ∧ q.length = a.length ∧ (∀ j, j < i → q.getD j 0 = 0) ∧ 0 ≤ Q
theorem DivRel.start (a : List Int) {B : Int} (hB : 0 < B) : DivRel a (List.replicate a.length 0) B a.length 0 := by
  refine ⟨0, 0, by simp [val], by rw [val_replicate]; simp, by simp, by omega, hB, fun x hx => ?_, by simp, fun j _ => ?_, by omega⟩
  · have := List.eq_of_mem_replicate hx; omega
  · simp [List.getD, List.getElem?_replicate]; split <;> simp
theorem DivRel.step {a q : List Int} {B r : Int} {m : Nat} (h : DivRel a q B (m + 1) r) (hm : m < a.length) (y t : Int) (hy : a.getD m 0 = y) (t0 : 0 ≤ t) (t1 : t ≤ 999) (h1 : t * B ≤ r * 1000 + y) (h2 : r * 1000 + y < (t + 1) * B) :
    DivRel a (q.set m t) B m (r * 1000 + y - t * B) := by
  obtain ⟨X, Q, e1, e2, e3, e4, e5, e6, e7, e8, e9⟩ := h
  have hl : m < q.length := by omega
  rw [Int.add_mul] at h2
  refine ⟨X * 1000 + y, Q * 1000 + t, ?_, ?_, ?_, by omega, by omega, e6.set t0 t1, by simp [e7], fun j hj => ?_, by omega⟩
  · rw [valN, p_succ, hy] at e1
    have q1 : 1000 ^ m * 1000 * X = 1000 ^ m * (X * 1000) := by rw [Int.mul_assoc, Int.mul_comm 1000 X]
    have q2 : 1000 ^ m * (X * 1000 + y) = 1000 ^ m * (X * 1000) + 1000 ^ m * y := Int.mul_add _ _ _
    have q3 : y * 1000 ^ m = 1000 ^ m * y := Int.mul_comm _ _
    omega
  · rw [val_set hl, e8 m (by omega), e2, p_succ]
    have q1 : 1000 ^ m * 1000 * Q = 1000 ^ m * (Q * 1000) := by rw [Int.mul_assoc, Int.mul_comm 1000 Q]
    have q2 : 1000 ^ m * (Q * 1000 + t) = 1000 ^ m * (Q * 1000) + 1000 ^ m * t := Int.mul_add _ _ _
    have q3 : (t - 0) * 1000 ^ m = 1000 ^ m * t := by rw [Int.sub_zero, Int.mul_comm]
    omega
  · have q1 : (Q * 1000 + t) * B = Q * B * 1000 + t * B := by rw [Int.add_mul, Int.mul_assoc, Int.mul_comm 1000 B, ← Int.mul_assoc]
    rw [q1, e3]; omega
  · rw [getD_set hl, if_neg (by omega)]; exact e8 j (by omega)
theorem set_zero {q : List Int} {m : Nat} (h : q.getD m 0 = 0) : q.set m 0 = q := by
  apply List.ext_getElem?
  intro i
  rw [List.getElem?_set]
  by_cases e : m = i
  · subst e
    by_cases hl : m < q.length
    · simp [hl]; simp [List.getD, hl] at h; exact h.symm
    · simp [hl]
  · simp [e]
/-- A digit of 0: the list stays. -/
theorem DivRel.skip {a q : List Int} {B r : Int} {m : Nat} (h : DivRel a q B (m + 1) r) (hm : m < a.length) (y : Int) (hy : a.getD m 0 = y) (y0 : 0 ≤ y) (h2 : r * 1000 + y < B) : DivRel a q B m (r * 1000 + y) := by
  have hr : 0 ≤ r := by obtain ⟨_, _, _, _, _, e4, _⟩ := h; exact e4
  have hz : q.getD m 0 = 0 := by obtain ⟨_, _, _, _, _, _, _, _, _, e8, _⟩ := h; exact e8 m (by omega)
  have := h.step hm y 0 hy (by omega) (by omega) (by omega) (by omega)
  rw [set_zero hz] at this
  simpa using this
theorem DivRel.first {a q : List Int} {B r : Int} {m : Nat} (h : DivRel a q B m r) {y : Int} (y1 : y ≤ 999) : r * 1000 + y < (999 + 1) * B := by
  obtain ⟨_, _, _, _, _, e4, e5, _⟩ := h
  rw [show ((999 : Int) + 1) = 1000 from rfl]; omega
theorem DivRel.stop {a q : List Int} {B r : Int} (h : DivRel a q B 0 r) : val a = val q * B + r ∧ 0 ≤ r ∧ r < B ∧ Dig q ∧ q.length = a.length ∧ 0 ≤ val q := by
  obtain ⟨X, Q, e1, e2, e3, e4, e5, e6, e7, e8, e9⟩ := h
  simp [valN] at e1 e2
  rw [e2, e1, e3]
  exact ⟨rfl, e4, e5, e6, e7, e9⟩
section
variable {P : Program} (w : World)
theorem run_append_nil (base : Nat) (t ty e : TypeId) (i : TypeInfo) (size : Nat) (ht : P.underlying t = some (.slice e)) (hi : P.info? e = some i)
    (v : Value) (n : Nat) (xs : List Value) (hown : w.ownsRow base e size v n xs) (c : Nat) : (Builtin.append_ #[t, t] ty #[v, .slice none 0 c]).run P w = .ok v w := by
  rcases hown.2 with ⟨rfl, rfl⟩ | ⟨g, cap, cur, rfl, _, _, hnc, _⟩
  · simp [Builtin.append_, run_underlying ht, sizeOf, typeInfo, hi, Builtin.lenOf, Builtin.firstCells]
  · simp [Builtin.append_, run_underlying ht, sizeOf, typeInfo, hi, Builtin.lenOf, Builtin.firstCells, hnc, storeCells]
/-- An append of integers that are read elsewhere (nil and empty among them) to a row of the call's own. -/
theorem run_append_ints (base : Nat) (t ty e : TypeId) (i : TypeInfo) (z : Value) (bytes : Nat) (ht : P.underlying t = some (.slice e)) (hi : P.info? e = some i) (hz : i.zero = some z) (hsize : i.size = 1) (hby : i.bytes = bytes) (hzs : z.cells.size = 1)
    (k : IntKind) (v v2 : Value) (zs ns : List Int) (hown : w.ownsRow base e 1 v zs.length (zs.map (Value.int k))) (hv2 : Ints k w v2 ns) (h63 : zs.length + ns.length ≤ maxLen) (hbytes : (zs.length + ns.length) * bytes ≤ 140737488355328) (hbase : base ≤ w.heap.size) :
    ∃ v' w', (Builtin.append_ #[t, t] ty #[v, v2]).run P w = .ok v' w' ∧ w'.ownsRow base e 1 v' (zs ++ ns).length ((zs ++ ns).map (Value.int k)) ∧ w.grownBy w' v.ownBlock := by
  obtain ⟨a, cap, rfl, hc, ha⟩ := hv2
  have one : ∀ u ∈ ns.map (Value.int k), u.oneCell' = true := by
    intro u hu; obtain ⟨x, _, rfl⟩ := List.mem_map.1 hu; rfl
  have fin : ∀ (v' : Value) (w' : World), w'.ownsRow base e 1 v' (zs.length + ns.length) (zs.map (Value.int k) ++ ns.map (Value.int k)) → w'.ownsRow base e 1 v' (zs ++ ns).length ((zs ++ ns).map (Value.int k)) := fun v' w' h => by
    simpa using h
  cases a with
  | none =>
    have hn : ns = [] := by
      rcases ha with h | ⟨b, off, h, _⟩
      · exact h
      · cases h
    subst hn
    exact ⟨v, w, run_append_nil w base t ty e i 1 ht hi v _ _ hown cap, fin v w (by simpa using hown), World.grownBy.refl w _⟩
  | some ad =>
    have hnews : ∀ j u, (ns.map (Value.int k))[j]? = some u → w.cell? (ad.add j) = some u := fun j u hj => by
      rcases ha with h | ⟨b, off, h, _, hcell⟩
      · subst h; simp at hj
      · simp only [Option.some.injEq] at h
        subst h
        rw [List.getElem?_map] at hj
        obtain ⟨x, hx, rfl⟩ := Option.map_eq_some_iff.1 hj
        have hl := (List.getElem?_eq_some_iff.1 hx).1
        have hh := hcell j hl
        have e1 : ns.getD j 0 = x := by simp [List.getD, hx]
        rw [e1] at hh
        by_cases h0 : j = 0
        · subst h0; simpa [Addr.add] using hh
        · simpa [Addr.add, h0] using hh
    obtain ⟨v', w', hrun, r1, r2, _⟩ := run_append_own (P := P) w base t ty e i z 1 bytes ht hi hz hsize hby hzs (by omega) v zs.length _ hown ad ns.length cap (ns.map (Value.int k)) (by simp) hnews one h63 hbytes hbase
    exact ⟨v', w', hrun, fin v' w' r1, r2⟩
end
end Go.Proofs.YtigikgphipebiaaDoor
/- Rows of words that a call made itself; Trim and Of of package nat. -/
namespace Go.Proofs.YtigikgphipebiaaDoor
set_option maxRecDepth 100000
open Go.RowKit
set_option linter.unusedVariables false
/-- What is left of a list of words without the noughts at its end. -/
def Cut (ap : Option Addr) (cap : Nat) (a : List Int) (v : Value) (n : Nat) : Prop :=
  (n = 0 ∧ v = .slice none 0 0 ∨ 0 < n ∧ v = .slice ap n cap) ∧ n ≤ a.length ∧ (∀ j, n ≤ j → a.getD j 0 = 0) ∧ Tidy (a.take n)
def CutPost (ap : Option Addr) (cap : Nat) (a : List Int) (w : World) (e : Ending) (w' : World) : Prop := ∃ v n, e = .returned v ∧ Cut ap cap a v n ∧ w = w'
theorem cut_none {ap : Option Addr} {cap : Nat} {a : List Int} (h : ∀ j, 0 ≤ j → a.getD j 0 = 0) : Cut ap cap a (.slice none 0 0) 0 :=
  ⟨.inl ⟨rfl, rfl⟩, Nat.zero_le _, h, .inl rfl⟩
theorem cut_some {ap : Option Addr} {cap : Nat} {a : List Int} {m : Nat} (hm : m < a.length) (h : ∀ j, m + 1 ≤ j → a.getD j 0 = 0) (h0 : a.getD m 0 ≠ 0) : Cut ap cap a (.slice ap (m + 1) cap) (m + 1) :=
  ⟨.inr ⟨by omega, rfl⟩, hm, h, tidy_take (by omega) (.inr h0)⟩
theorem zeros_step {a : List Int} {m : Nat} (h : ∀ j, m + 1 ≤ j → a.getD j 0 = 0) (h0 : a.getD m 0 = 0) : ∀ j, m ≤ j → a.getD j 0 = 0 := fun j hj => by
  by_cases e : j = m
  · rw [e]; exact h0
  · exact h j (by omega)
set_option maxHeartbeats 1000000 in
theorem sig_any (ap : Option Addr) (L cap : Nat) (a : List Int) (w : World) (hv : Ints .u32 w (.slice ap L cap) a) (hl : L ≤ 1099511627776) :
    Calls Tryd.prog 39 #[.slice ap L cap] w (CutPost ap cap a w) := by
  have hL : a.length = L := by obtain ⟨_, _, e, _⟩ := hv; simp at e; exact e.2.1.symm
  have hcap : L ≤ cap := by obtain ⟨_, _, e, h, _⟩ := hv; simp at e; omega
  have HV := Lib.hid hv
  have HL := Lib.hid hL
  clear hv hL
  go_enter Tryd.func39, Tryd.ntmps39
  go_wp2_with fail
  go_loop [7] (fun i => ∃ (k m : Nat), Hid (L = k + m) ∧ k ≤ L ∧ i = .int .i64 k ∧ Hid (∀ j, m ≤ j → a.getD j 0 = 0)) (fun i => L - (intOf i).toNat)
  case atStart => exact ⟨0, L, Lib.hid (by omega), by omega, rfl, Lib.hid (fun j hj => getD_past (by have := HL.out; omega))⟩
  case round =>
    obtain ⟨k, m, hm, hk, rfl, hz⟩ := hrel
    by_cases hlt : k < L
    · obtain ⟨n, rfl⟩ : ∃ n, m = n + 1 := ⟨m - 1, by have := hm.out; omega⟩
      obtain ⟨b, off, hap, hb, hcell⟩ := HV.out.cell (i := n) (by have := hm.out; have := HL.out; omega)
      subst hap
      have hi0 : (0 : Int) ≤ L - k - 1 := by omega
      have hi1 : (L : Int) - k - 1 < L := by omega
      have hiN : ((L : Int) - k - 1).toNat = n := by have := hm.out; omega
      have hiM : ((L : Int) - k).toNat = n + 1 := by have := hm.out; omega
      have hX := Lib.hid (fun (x : Int) (hx : a.getD n 0 = x) (e : x = 0) => zeros_step hz.out (by rw [hx, e]))
      have hY := Lib.hid (fun (x : Int) (hx : a.getD n 0 = x) (e : x ≠ 0) => (cut_some (ap := some ⟨b, off, none⟩) (cap := cap) (m := n) (by have := hm.out; have := HL.out; omega) hz.out (by rw [hx]; exact e)))
      generalize hx : a.getD n 0 = x at *
      have hX2 := Lib.hid (hX.out x rfl)
      have hY2 := Lib.hid (hY.out x rfl)
      clear hX hY hx hz
      by_cases h0 : x = 0
      · subst h0
        go_wp2_with fail
        go_round
        case rel => exact ⟨k + 1, n, Lib.hid (by have := hm.out; omega), by omega, by go_num, Lib.hid (hX2.out rfl)⟩
        case measure => simp [intOf]; omega
      · go_wp2_with fail
        go_ret
        exact ⟨_, _, rfl, hY2.out h0, rfl⟩
    · have hE := Lib.hid (cut_none (ap := ap) (cap := cap) (fun j hj => hz.out j (by have := hm.out; omega)))
      clear hz
      go_wp2_with fail
      go_ret
      exact ⟨_, _, rfl, hE.out, rfl⟩
/-- A list of words read, with a bound on its length. -/
def WList (w : World) (v : Value) (a : List Int) : Prop := Ints .u32 w v a ∧ Wd a ∧ a.length ≤ 1099511627776
theorem WList.below {w w' : World} {v : Value} {a : List Int} (h : WList w v a) (hb : Below w.heap.size w w') : WList w' v a := ⟨h.1.below hb, h.2⟩
theorem WList.nil {w : World} : WList w (.slice none 0 0) [] := ⟨⟨none, 0, rfl, by simp, .inl rfl⟩, Wd.nil, by simp⟩
theorem WList.shape {w : World} {v : Value} {a : List Int} (h : WList w v a) : ∃ p c, v = .slice p a.length c := by
  obtain ⟨⟨p, c, e, _⟩, _⟩ := h; exact ⟨p, c, e⟩
theorem Cut.wlist {w : World} {ap : Option Addr} {cap n : Nat} {a : List Int} {v : Value} (h : Cut ap cap a v n) (hv : WList w (.slice ap a.length cap) a) : WList w v (a.take n) ∧ wv (a.take n) = wv a ∧ Tidy (a.take n) := by
  obtain ⟨h1, h2, h3, h4⟩ := h
  refine ⟨?_, wv_take h2 h3, h4⟩
  rcases h1 with ⟨rfl, rfl⟩ | ⟨_, rfl⟩
  · exact WList.nil
  · exact ⟨hv.1.take h2, hv.2.1.take n, by rw [List.length_take]; have := hv.2.2; omega⟩
/-- The trim list of a number. -/
def IsNat (w : World) (v : Value) (z : Int) : Prop := ∃ a, WList w v a ∧ Tidy a ∧ wv a = z
theorem IsNat.below {w w' : World} {v : Value} {z : Int} (h : IsNat w v z) (hb : Below w.heap.size w w') : IsNat w' v z := by
  obtain ⟨a, h1, h2, h3⟩ := h; exact ⟨a, h1.below hb, h2, h3⟩
set_option maxHeartbeats 400000 in
theorem sign_any (b : Bool) (w : World) : Calls Tryd.prog 83 #[.bool b] w fun e w' => e = .returned (.int .i64 (bif b then -1 else 1)) ∧ w = w' := by
  cases b
  all_goals
    go_enter Tryd.func83, Tryd.ntmps83
    go_wp2
    go_ret
    exact ⟨rfl, rfl⟩
set_option maxRecDepth 100000
open Go.RowKit
set_option linter.unusedVariables false
theorem Tryd.infoU32 : (Tryd.prog.info? 48).map (fun i => (i.zero, i.size, i.bytes)) = some (some (.int .u32 0), 1, 4) := by kernel_rfl
/-- A row of words of the call's own: block g, from B on. -/
def WRow (w : World) (B g cap : Nat) (a : List Int) : Prop := w.ownsRow B 48 1 (.slice (some ⟨g, 0, none⟩) a.length cap) a.length (a.map (Value.int .u32))
theorem WRow.facts {w : World} {B g cap : Nat} {a : List Int} (h : WRow w B g cap a) : B ≤ g ∧ g < w.heap.size ∧ a.length ≤ cap ∧ cap ≤ maxLen ∧ ∀ j, j < a.length → w.cell? ⟨g, j, none⟩ = some (.int .u32 (a.getD j 0)) ∧ w.frozen? ⟨g, j, none⟩ = false := by
  have h0 := h
  obtain ⟨hl, hh⟩ := h
  have h1 := World.ownsRow.lt h0 g rfl
  refine ⟨h1.1, h1.2, ?_, ?_, fun j hj => ⟨?_, World.ownsRow.frozenAt h0 j⟩⟩
  · rcases hh with ⟨e, _⟩ | ⟨g', cap', cur, e, _, _, hc, _⟩
    · simp at e
    · simp at e; omega
  · rcases hh with ⟨e, _⟩ | ⟨g', cap', cur, e, _, _, _, hc, _⟩
    · simp at e
    · simp at e; omega
  · rw [World.ownsRow.cellAt h0 j (by omega)]
    simp [List.getD, hj]
theorem WRow.set {w : World} {B g cap : Nat} {a : List Int} (h : WRow w B g cap a) (j : Nat) (x : Int) : WRow (w.setCell ⟨g, j, none⟩ (.int .u32 x)) B g cap (a.set j x) := by
  have := (World.ownsRow.stored h j (.int .u32 x)).1
  simpa [WRow, List.map_set] using this
theorem WRow.drewN {w : World} {B g cap : Nat} {a : List Int} (h : WRow w B g cap a) (n : Nat) : WRow (w.drewN n) B g cap a := h
theorem WRow.call {w w' : World} {B g cap : Nat} {a : List Int} (h : WRow w B g cap a) (hb : Below w.heap.size w w') : WRow w' B g cap a := by
  obtain ⟨h1, h2⟩ := h
  refine ⟨h1, ?_⟩
  rcases h2 with h2 | ⟨g', cap', cur, e, h3, h4, h5⟩
  · exact .inl h2
  · exact .inr ⟨g', cap', cur, e, h3, by rw [hb.block g' (Array.getElem?_eq_some_iff.1 h4).1]; exact h4, h5⟩
theorem WRow.wlist {w : World} {B g cap : Nat} {a : List Int} (h : WRow w B g cap a) (hd : Wd a) (hl : a.length ≤ 1099511627776) : WList w (.slice (some ⟨g, 0, none⟩) a.length cap) a := ⟨Ints.own h, hd, hl⟩
theorem below_set {B : Nat} {w w' : World} {g : Nat} (h : Below B w w') (hg : B ≤ g) (j : Nat) (x : Value) : Below B w (w'.setCell ⟨g, j, none⟩ x) := h.setCell hg x
theorem wrow_made {w w0 : World} {n : Nat} {z : Array Value} (hz : z = #[.int .u32 0]) (hown : w0.ownsRow w.heap.size 48 1 (.slice (some ⟨w.heap.size, 0, none⟩) n n) n (madeCells z (n * 1)).toList) (hg : w.grownBy w0 none) :
    WRow w0 w.heap.size w.heap.size n (List.replicate n 0) ∧ Below w.heap.size w w0 := by
  subst hz
  refine ⟨?_, (Below.refl _ _).grown hg (Nat.le_refl _) (fun k hk => by cases hk)⟩
  rw [toList_madeCells_one] at hown
  simpa [WRow] using hown
theorem Cut.own {w : World} {B g cap n : Nat} {a : List Int} {v : Value} (h : Cut (some ⟨g, 0, none⟩) cap a v n) (hr : WRow w B g cap a) : w.ownsRow B 48 1 v (a.take n).length ((a.take n).map (Value.int .u32)) := by
  obtain ⟨h1, h2, h3, h4⟩ := h
  have hl : (a.take n).length = n := by rw [List.length_take]; omega
  rcases h1 with ⟨rfl, rfl⟩ | ⟨_, rfl⟩
  · exact World.ownsRow_nil _ _ _ _
  · obtain ⟨k1, k2⟩ := hr
    refine ⟨by simp, ?_⟩
    rcases k2 with ⟨e, _⟩ | ⟨g', cap', cur, e, q1, q2, q3, q4, q5, q6⟩
    · simp at e
    · refine .inr ⟨g', cap', cur, by simp at e ⊢; exact ⟨e.1, by omega, e.2⟩, q1, q2, by omega, q4, q5, ?_⟩
      have := congrArg (List.take n) q6
      rw [List.take_take] at this
      rw [hl, show n * 1 = min n (a.length * 1) from by omega, this, List.map_take]
/-- What the calls answer that make a list: trim, new memory, the number z. -/
def Fresh (w : World) (z : Int) (m : Nat) (e : Ending) (w' : World) : Prop :=
  ∃ v a, e = .returned v ∧ w'.ownsRow w.heap.size 48 1 v a.length (a.map (Value.int .u32)) ∧ Wd a ∧ Tidy a ∧ wv a = z ∧ a.length ≤ m ∧ Below w.heap.size w w'
theorem own_wlist {w : World} {B : Nat} {v : Value} {a : List Int} (h : w.ownsRow B 48 1 v a.length (a.map (Value.int .u32))) (hd : Wd a) (hl : a.length ≤ 1099511627776) : WList w v a := ⟨Ints.own h, hd, hl⟩
section
variable {P : Program} (w : World)
/-- An append of integers that are read elsewhere, in a plain region. -/
theorem wpList_append_ints {ops : Array Oper} {rest : List Oper} {o : Oper} {a : Act} {Q : Exit → Act → World → Prop} (hgd : o.guard = none) (s x : Operand) (t : TypeId)
    (ho : o.op = .call { callee := .builtin .append, args := #[s, x], argTypes := #[t, t] })
    (base : Nat) (e : TypeId) (i : TypeInfo) (z : Value) (bytes : Nat) (ht : P.underlying t = some (.slice e)) (hi : P.info? e = some i) (hz : i.zero = some z) (hsize : i.size = 1) (hby : i.bytes = bytes) (hzs : z.cells.size = 1)
    (k : IntKind) (v v2 : Value) (zs ns : List Int) (hs : a.eval s = v) (hx : a.eval x = v2) (hown : w.ownsRow base e 1 v zs.length (zs.map (Value.int k))) (hv2 : Ints k w v2 ns) (h63 : zs.length + ns.length ≤ maxLen) (hbytes : (zs.length + ns.length) * bytes ≤ 140737488355328) (hbase : base ≤ w.heap.size)
    (h : ∀ v' w', w'.ownsRow base e 1 v' (zs ++ ns).length ((zs ++ ns).map (Value.int k)) → w.grownBy w' v.ownBlock → wpList P ops Q rest (a.put o.dst v') w') : wpList P ops Q (o :: rest) a w :=
  wpList_plain hgd fun _ hK => by
    obtain ⟨v', w', hrun, r1, r2⟩ := run_append_ints (P := P) w base t o.type e i z bytes ht hi hz hsize hby hzs k v v2 zs ns hown hv2 h63 hbytes hbase
    unfold Oper.wp
    simp [execOp, ho, resolve, invoke, builtin, hs, hx, hrun, Result.andThen]
    exact hK _ _ (h v' w' r1 r2)
end
set_option maxHeartbeats 400000 in
theorem trim_any (v : Value) (a : List Int) (w : World) (hv : WList w v a) (z : Int) (hz : wv a = z) :
    Calls Tryd.prog 69 #[v] w (Fresh w z a.length) := by
  obtain ⟨i0, hi, hz0, hz1, hz2⟩ := info_parts Tryd.infoU32
  obtain ⟨p, c, rfl⟩ := hv.shape
  have HV := Lib.hid hv
  have HS := Lib.hid (sig_any p a.length c a w hv.1 hv.2.2)
  clear hv
  go_enter Tryd.func69, Tryd.ntmps69
  go_wp2_with fail
  refine (HS.out).mono ?_; rintro e w' ⟨u, n, rfl, hc, rfl⟩
  have hw := hc.wlist HV.out
  have hn := hc.2.1
  have HW := Lib.hid hw.2
  have hI := hw.1.1
  have hD := hw.1.2.1
  have hL : (a.take n).length ≤ a.length := by rw [List.length_take]; omega
  have hA : a.length ≤ 1099511627776 := HV.out.2.2
  clear hc hw HV HS
  go_wp2_with (at_builtin; refine wpList_append_ints _ rfl _ _ 34 rfl w.heap.size 48 i0 (.int .u32 0) 4 Tryd.underlying34 hi hz0 hz1 hz2 rfl .u32 _ _ [] (a.take n) rfl rfl (World.ownsRow_nil _ _ _ _) hI (by unfold maxLen; simp; omega) (by simp; omega) (Nat.le_refl _) ?_; intro v' w1 hown hgrow)
  go_ret
  exact ⟨v', a.take n, rfl, by simpa using hown, hD, HW.out.2, HW.out.1.trans hz, hL, (Below.refl _ _).grown hgrow (Nat.le_refl _) (fun k hk => by cases hk)⟩
end Go.Proofs.YtigikgphipebiaaDoor
