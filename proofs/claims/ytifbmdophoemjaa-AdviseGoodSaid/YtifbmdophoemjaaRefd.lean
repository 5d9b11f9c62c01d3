/- What the sums and signs of the reference's numbers return. -/
import Derived.Test.YtifbmdophoemjaaProg
import Derived.Test.YtifbmdophoemjaaDigits
import Derived.Test.YtifbmdophoemjaaInts
import Derived.WalkKit
import Derived.WalkSpells
import Derived.WalkLawsBesides
import Derived.WalkSmall
import Derived.Deep.QuietTactic
import Derived.BigQuiet
import Derived.Lib.Hide
import Derived.Deep.RegionHeld3
import Derived.Deep.DeepCutAuto
namespace Go.Proofs.Ytifbmdophoemjaa
set_option maxRecDepth 100000
open Go.RowKit
theorem Ints.below {k : IntKind} {w w' : World} {v : Value} {zs : List Int} (h : Ints k w v zs) (hb : Below w.heap.size w w') : Ints k w' v zs := by
  obtain ⟨a, cap, rfl, hc, ha⟩ := h
  refine ⟨a, cap, rfl, hc, ?_⟩
  rcases ha with h | ⟨b, off, rfl, hbl, hcell⟩
  · exact .inl h
  · exact .inr ⟨b, off, rfl, by have := hb.size; omega, fun i hi => cell_later hb (hcell i hi)⟩
theorem Ints.cell {k : IntKind} {w : World} {zs : List Int} {a : Option Addr} {l cap : Nat} (h : Ints k w (.slice a l cap) zs) {i : Nat} (hi : i < zs.length) :
    ∃ b off, a = some ⟨b, off, none⟩ ∧ b < w.heap.size ∧ w.cell? ⟨b, off + i, none⟩ = some (.int k (zs.getD i 0)) := by
  obtain ⟨a', cap', e, hc, ha⟩ := h
  simp only [Value.slice.injEq] at e
  obtain ⟨rfl, rfl, rfl⟩ := e
  rcases ha with h | ⟨b, off, rfl, hbl, hcell⟩
  · subst h; simp at hi
  · exact ⟨b, off, rfl, hbl, hcell i hi⟩
theorem same_past {a b : List Int} {m : Nat} (ha : a.length ≤ m) (hb : b.length ≤ m) : ∀ j, m ≤ j → a.getD j 0 = b.getD j 0 := fun j hj => by
  rw [getD_past (by omega), getD_past (by omega)]
theorem same_more {a b : List Int} {k : Nat} (h : ∀ j, k + 1 ≤ j → a.getD j 0 = b.getD j 0) (e : a.getD k 0 = b.getD k 0) : ∀ j, k ≤ j → a.getD j 0 = b.getD j 0 := fun j hj => by
  by_cases hjk : j = k
  · subst hjk; exact e
  · exact h j (by omega)
/-- A row of the call's own reads as these numbers. -/
theorem Ints.own {w : World} {B E : Nat} {v : Value} {n : Nat} {k : IntKind} {zs : List Int} (h : w.ownsRow B E 1 v n (zs.map (Value.int k))) : Ints k w v zs := by
  obtain ⟨hl, h⟩ := h
  have hn : n = zs.length := by simpa using hl.symm
  subst hn
  rcases h with ⟨rfl, h0⟩ | ⟨g, cap, cur, rfl, _, hb, hnc, _, hs, ht⟩
  · have : zs = [] := List.length_eq_zero_iff.1 h0
    subst this
    exact ⟨none, 0, rfl, by simp, .inl rfl⟩
  · refine ⟨_, cap, rfl, hnc, .inr ⟨g, 0, rfl, ?_, fun i hi => ?_⟩⟩
    · exact (Array.getElem?_eq_some_iff.1 hb).1
    · have e : cur.toList[i]? = some (.int k (zs.getD i 0)) := by
        have h1 : (cur.toList.take (zs.length * 1))[i]? = (zs.map (Value.int k))[i]? := by rw [ht]
        rw [List.getElem?_take, if_pos (by omega)] at h1
        rw [h1]; simp [List.getD, hi]
      simp [World.cell?, hb]
      simpa using e
theorem Try.infoInt : (Try.prog.info? 3).map (fun i => (i.zero, i.size, i.bytes)) = some (some (.int .i64 0), 1, 8) := by kernel_rfl
theorem sum_step {a b out : List Int} {k : Nat} {c : Int} (h : valN a k + valN b k = val out + 1000 ^ k * c) (hl : out.length = k) (s : Int) (hs : s = a.getD k 0 + b.getD k 0 + c) :
    valN a (k + 1) + valN b (k + 1) = val (out ++ [s % 1000]) + 1000 ^ (k + 1) * (s / 1000) := by
  rw [valN, valN, val_snoc, hl, p_succ]
  have h1 := carry_step s (1000 ^ k)
  have h2 : s * 1000 ^ k = a.getD k 0 * 1000 ^ k + b.getD k 0 * 1000 ^ k + c * 1000 ^ k := by rw [hs, Int.add_mul, Int.add_mul]
  have h3 : 1000 ^ k * 1000 * (s / 1000) = s / 1000 * (1000 ^ k * 1000) := Int.mul_comm _ _
  have h4 : 1000 ^ k * c = c * 1000 ^ k := Int.mul_comm _ _
  omega
def SumRel (a b out : List Int) (k : Nat) (c : Int) : Prop := valN a k + valN b k = val out + 1000 ^ k * c ∧ out.length = k ∧ Dig out ∧ 0 ≤ c ∧ c ≤ 1
theorem SumRel.start (a b : List Int) : SumRel a b [] 0 0 := ⟨by simp [valN, val_nil], rfl, Dig.nil, by omega, by omega⟩
theorem SumRel.step {a b out : List Int} {k : Nat} {c : Int} (ha : Dig a) (hb : Dig b) (h : SumRel a b out k c) (x y : Int) (hx : a.getD k 0 = x) (hy : b.getD k 0 = y) :
    SumRel a b (out ++ [(x + y + c) % 1000]) (k + 1) ((x + y + c) / 1000) := by
  obtain ⟨h1, h2, h3, h4, h5⟩ := h
  have h6 := ha.getD k
  have h7 := hb.getD k
  rw [hx] at h6
  rw [hy] at h7
  exact ⟨sum_step h1 h2 _ (by rw [hx, hy]), by simp [h2], h3.snoc (by omega) (by omega), by omega, by omega⟩
theorem SumRel.stop {a b out : List Int} {k : Nat} {c : Int} (h : SumRel a b out k c) (ka : a.length ≤ k) (kb : b.length ≤ k) : val (out ++ [c]) = val a + val b ∧ Dig (out ++ [c]) ∧ (out ++ [c]).length = k + 1 := by
  obtain ⟨h1, h2, h3, h4, h5⟩ := h
  rw [valN_past a ka, valN_past b kb] at h1
  refine ⟨?_, h3.snoc h4 (by omega), by simp [h2]⟩
  rw [val_snoc, h2, Int.mul_comm c]; omega
theorem one_int (k : IntKind) (x : Int) : ∀ u ∈ [Value.int k x], u.oneCell' = true := by intro u hu; simp at hu; subst hu; rfl
theorem room63 {n : Nat} (h : n ≤ 1099511627776) : n + 1 ≤ maxLen := by unfold maxLen; omega
theorem room47 {n : Nat} (h : n ≤ 1099511627776) : (n + 1) * 8 ≤ 140737488355328 := by omega
/-- One number more at the end of a row of the call's own. -/
theorem own_push {B : Nat} {w wr w1 : World} {E : Nat} {o v' : Value} {n : Nat} {k : IntKind} {zs : List Int} {x : Int} {ob : Obj} (hn : n = zs.length) (hB : B ≤ wr.heap.size) (hnx : Below B w wr) (hown : wr.ownsRow B E 1 o zs.length (zs.map (Value.int k)))
    (hown' : w1.ownsRow B E 1 v' (n + 1) (zs.map (Value.int k) ++ [.int k x])) (hg : (wr.alloc ob).grownBy w1 o.ownBlock) :
    w1.ownsRow B E 1 v' (zs ++ [x]).length ((zs ++ [x]).map (Value.int k)) ∧ Below B w w1 := by
  subst hn
  refine ⟨by simpa using hown', (hnx.alloc hB ob).grown hg ?_ ?_⟩
  · simp; omega
  · intro k hk; exact (hown.lt k hk).1
theorem own_slice {w : World} {B E : Nat} {v : Value} {n : Nat} {xs : List Value} (h : w.ownsRow B E 1 v n xs) : ∃ a cap, v = .slice a n cap := by
  obtain ⟨_, h⟩ := h
  rcases h with ⟨rfl, rfl⟩ | ⟨g, cap, cur, rfl, _⟩
  · exact ⟨_, _, rfl⟩
  · exact ⟨_, _, rfl⟩
/-- What is known of a block of two cells that the call laid first. -/
theorem pair_later {w wr : World} {a b : Value} {T : TypeId} (h : Below (w.heap.size + 1) (w.alloc (.cells #[a, b] T)) wr) :
    wr.cell? ⟨w.heap.size, 0, none⟩ = some a ∧ wr.cell? ⟨w.heap.size, 1, none⟩ = some b ∧ wr.frozen? ⟨w.heap.size, 0, none⟩ = false ∧ wr.frozen? ⟨w.heap.size, 1, none⟩ = false := by
  refine ⟨?_, ?_, ?_, ?_⟩
  · rw [h.cell (p := ⟨w.heap.size, 0, none⟩) (by simp)]; simp [go_sem]
  · rw [h.cell (p := ⟨w.heap.size, 1, none⟩) (by simp)]; simp [go_sem]
  · rw [h.frozen (p := ⟨w.heap.size, 0, none⟩) (by simp)]; exact World.frozen?_alloc_at _ _ _ _ rfl
  · rw [h.frozen (p := ⟨w.heap.size, 1, none⟩) (by simp)]; exact World.frozen?_alloc_at _ _ _ _ rfl
/-- The block behind a slice value is one of cells of type E. -/
def Typed (E : TypeId) (w : World) (v : Value) : Prop := ∀ b off l cap, v = .slice (some ⟨b, off, none⟩) l cap → ∃ cur fr, w.heap[b]? = some (.cells cur E fr)
theorem Typed.below {E : TypeId} {w w' : World} {v : Value} (h : Typed E w v) (hb : Below w.heap.size w w') : Typed E w' v := fun b off l cap e => by
  obtain ⟨cur, fr, hh⟩ := h b off l cap e
  exact ⟨cur, fr, by rw [hb.block b (Array.getElem?_eq_some_iff.1 hh).1]; exact hh⟩
theorem Typed.none {E : TypeId} {w : World} {l cap : Nat} : Typed E w (.slice none l cap) := fun _ _ _ _ e => by cases e
theorem Typed.own {w : World} {B E : Nat} {v : Value} {n : Nat} {xs : List Value} (h : w.ownsRow B E 1 v n xs) : Typed E w v := by
  obtain ⟨_, h⟩ := h
  rcases h with ⟨rfl, rfl⟩ | ⟨g, cap, cur, rfl, _, hb, _⟩
  · exact Typed.none
  · intro b off l cap' e
    simp only [Value.slice.injEq, Option.some.injEq, Addr.mk.injEq] at e
    obtain ⟨⟨rfl, rfl, _⟩, _⟩ := e
    exact ⟨cur, _, hb⟩
theorem Typed.cut {E : TypeId} {w : World} {a : Option Addr} {l cap l' cap' : Nat} (h : Typed E w (.slice a l cap)) : Typed E w (.slice a l' cap') := fun b off m c e => by
  simp only [Value.slice.injEq] at e
  exact h b off l cap (by rw [e.1])
theorem heap_setCell_cells {w : World} {p : Addr} {u : Value} {b : Nat} {cur : Array Value} {E : TypeId} {fr : Nat × Nat} (h : w.heap[b]? = some (.cells cur E fr)) : ∃ cur', (w.setCell p u).heap[b]? = some (.cells cur' E fr) := by
  by_cases e : b = p.block
  · subst e
    refine ⟨if p.spot.isSome then cur else cur.setIfInBounds p.off u, ?_⟩
    simp [World.setCell, Array.getElem?_modify, h]
  · exact ⟨cur, by rw [Below.heap_setCell _ _ _ _ e]; exact h⟩
theorem Typed.set {E : TypeId} {w : World} {v : Value} (h : Typed E w v) (p : Addr) (u : Value) : Typed E (w.setCell p u) v := fun b off l cap e => by
  obtain ⟨cur, fr, hh⟩ := h b off l cap e
  obtain ⟨cur', h'⟩ := heap_setCell_cells (p := p) (u := u) hh
  exact ⟨cur', fr, h'⟩
theorem Ints.set {E T : TypeId} {k : IntKind} {w : World} {v : Value} {zs : List Int} (h : Ints k w v zs) (ht : Typed E w v) {p : Addr} (u : Value) {cur : Array Value} {fr : Nat × Nat} (hp : w.heap[p.block]? = some (.cells cur T fr)) (hne : T ≠ E) : Ints k (w.setCell p u) v zs := by
  obtain ⟨a, cap, rfl, hc, ha⟩ := h
  refine ⟨a, cap, rfl, hc, ?_⟩
  rcases ha with h | ⟨b, off, rfl, hbl, hcell⟩
  · exact .inl h
  · refine .inr ⟨b, off, rfl, by simpa [World.setCell] using hbl, fun i hi => ?_⟩
    rw [World.cell?_setCell_other]
    · exact hcell i hi
    · intro e
      obtain ⟨cur', fr', hh⟩ := ht b off _ _ rfl
      rw [e] at hp
      rw [hp] at hh
      simp only [Option.some.injEq, Obj.cells.injEq] at hh
      exact hne hh.2.1
/-- The post of a call that makes a list of digits. -/
def MadeDigits (w : World) (z : Int) (m : Nat) (e : Ending) (w' : World) : Prop := ∃ v out, e = .returned v ∧ Ints .i64 w' v out ∧ Typed 3 w' v ∧ Dig out ∧ val out = z ∧ out.length ≤ m ∧ Below w.heap.size w w'
set_option maxRecDepth 100000
open Go.RowKit
/-- One step of a difference. -/
theorem rest_step {a b out : List Int} {k : Nat} {c : Int} (h : valN a k - valN b k = val out - 1000 ^ k * c) (hl : out.length = k) (s d c' : Int) (hs : s = a.getD k 0 - b.getD k 0 - c) (hd : s = d - 1000 * c') :
    valN a (k + 1) - valN b (k + 1) = val (out ++ [d]) - 1000 ^ (k + 1) * c' := by
  rw [valN, valN, val_snoc, hl, p_succ]
  have h2 : s * 1000 ^ k = a.getD k 0 * 1000 ^ k - b.getD k 0 * 1000 ^ k - c * 1000 ^ k := by rw [hs, Int.sub_mul, Int.sub_mul]
  have h3 : s * 1000 ^ k = d * 1000 ^ k - 1000 * c' * 1000 ^ k := by rw [hd, Int.sub_mul]
  have h4 : 1000 ^ k * c = c * 1000 ^ k := Int.mul_comm _ _
  have h5 : 1000 ^ k * 1000 * c' = 1000 * c' * 1000 ^ k := by rw [Int.mul_assoc, Int.mul_comm]
  omega
def RestRel (a b out : List Int) (k : Nat) (c : Int) : Prop := valN a k - valN b k = val out - 1000 ^ k * c ∧ out.length = k ∧ Dig out ∧ 0 ≤ c ∧ c ≤ 1
theorem RestRel.start (a b : List Int) : RestRel a b [] 0 0 := ⟨by simp [valN, val_nil], rfl, Dig.nil, by omega, by omega⟩
theorem RestRel.less {a b out : List Int} {k : Nat} {c : Int} (ha : Dig a) (hb : Dig b) (h : RestRel a b out k c) (x y : Int) (hx : a.getD k 0 = x) (hy : b.getD k 0 = y) (hn : x - y - c < 0) :
    RestRel a b (out ++ [x - y - c + 1000]) (k + 1) 1 := by
  obtain ⟨h1, h2, h3, h4, h5⟩ := h
  have h6 := ha.getD k
  have h7 := hb.getD k
  rw [hx] at h6
  rw [hy] at h7
  exact ⟨rest_step h1 h2 _ _ 1 (by rw [hx, hy]) (by omega), by simp [h2], h3.snoc (by omega) (by omega), by omega, by omega⟩
theorem RestRel.more {a b out : List Int} {k : Nat} {c : Int} (ha : Dig a) (hb : Dig b) (h : RestRel a b out k c) (x y : Int) (hx : a.getD k 0 = x) (hy : b.getD k 0 = y) (hn : 0 ≤ x - y - c) :
    RestRel a b (out ++ [x - y - c]) (k + 1) 0 := by
  obtain ⟨h1, h2, h3, h4, h5⟩ := h
  have h6 := ha.getD k
  have h7 := hb.getD k
  rw [hx] at h6
  rw [hy] at h7
  exact ⟨rest_step h1 h2 _ _ 0 (by rw [hx, hy]) (by omega), by simp [h2], h3.snoc (by omega) (by omega), by omega, by omega⟩
theorem RestRel.stop {a b out : List Int} {c : Int} (hb : Dig b) (ha : Dig a) (hv : val b ≤ val a) (h : RestRel a b out a.length c) : val out = val a - val b ∧ Dig out ∧ out.length = a.length := by
  obtain ⟨h1, h2, h3, h4, h5⟩ := h
  have hr := val_range ha
  have hr2 := val_range h3
  rw [h2] at hr2
  rw [valN_past a (Nat.le_refl _), valN_of_lt hb (by omega)] at h1
  refine ⟨?_, h3, h2⟩
  have : c = 0 ∨ c = 1 := by omega
  rcases this with rfl | rfl <;> simp at h1 <;> omega
set_option maxRecDepth 100000
open Go.RowKit
def signed (neg : Bool) (z : Int) : Int := bif neg then -z else z
/-- A value of the reference's numbers reads as z: its digits tidy, the sign only where there is a digit. -/
def IsNum (w : World) (v : Value) (z : Int) : Prop :=
  ∃ neg s ds, v = .agg #[.bool neg, s] ∧ Ints .i64 w s ds ∧ Typed 3 w s ∧ Dig ds ∧ Tidy ds ∧ (neg = true → ds ≠ []) ∧ z = signed neg (val ds)
def MadeNum (w : World) (z : Int) (e : Ending) (w' : World) : Prop := ∃ v, e = .returned v ∧ IsNum w' v z ∧ Below w.heap.size w w'
theorem IsNum.below {w w' : World} {v : Value} {z : Int} (h : IsNum w v z) (hb : Below w.heap.size w w') : IsNum w' v z := by
  obtain ⟨neg, s, ds, h1, h2, h3, h4⟩ := h
  exact ⟨neg, s, ds, h1, h2.below hb, h3.below hb, h4⟩
/-- A number stays as it is where a cell of a block of another type is written. -/
theorem IsNum.set {w : World} {v : Value} {z : Int} (h : IsNum w v z) {p : Addr} (u : Value) {cur : Array Value} {T : TypeId} {fr : Nat × Nat} (hp : w.heap[p.block]? = some (.cells cur T fr)) (hne : T ≠ 3) : IsNum (w.setCell p u) v z := by
  obtain ⟨neg, s, ds, h1, h2, h3, h4⟩ := h
  exact ⟨neg, s, ds, h1, h2.set h3 u hp hne, h3.set p u, h4⟩
theorem pair_at {W wr : World} {N : Nat} {a b : Value} {T : TypeId} (hN : W.heap.size = N) (h : Below (N + 1) (W.alloc (.cells #[a, b] T)) wr) :
    wr.cell? ⟨N, 0, none⟩ = some a ∧ wr.cell? ⟨N, 1, none⟩ = some b ∧ wr.frozen? ⟨N, 0, none⟩ = false ∧ wr.frozen? ⟨N, 1, none⟩ = false := by
  subst hN; exact pair_later h
theorem Ints.take {k : IntKind} {w : World} {zs : List Int} {a : Option Addr} {l cap : Nat} (h : Ints k w (.slice a l cap) zs) {n : Nat} (hn : n ≤ zs.length) : Ints k w (.slice a n cap) (zs.take n) := by
  obtain ⟨a', cap', e, hc, ha⟩ := h
  simp only [Value.slice.injEq] at e
  obtain ⟨rfl, rfl, rfl⟩ := e
  have hl : (zs.take n).length = n := by rw [List.length_take]; omega
  refine ⟨a, cap, by rw [hl], by omega, ?_⟩
  rcases ha with h | ⟨b, off, rfl, hbl, hcell⟩
  · subst h; exact .inl (by simp)
  · refine .inr ⟨b, off, rfl, hbl, fun i hi => ?_⟩
    rw [hl] at hi
    rw [getD_take hi]; exact hcell i (by omega)
theorem below_one (w : World) (o : Obj) : Below w.heap.size w (w.alloc o) := (Below.refl _ _).alloc (Nat.le_refl _) o
theorem made_num {w : World} {a : Option Addr} {l cap : Nat} {ds : List Int} {n : Nat} {neg b : Bool} (o : Obj) (hv : Ints .i64 w (.slice a l cap) ds) (hT : Typed 3 w (.slice a l cap)) (hd : Dig ds) (hn : n ≤ ds.length) (hz : ∀ j, n ≤ j → ds.getD j 0 = 0) (ht : Tidy (ds.take n)) (hb : b = (neg && decide (0 < n))) :
    IsNum (w.alloc o) (.agg #[.bool b, .slice a n cap]) (signed neg (val ds)) := by
  refine ⟨b, _, ds.take n, rfl, (hv.take hn).below (below_one w o), hT.cut.below (below_one w o), hd.take n, ht, ?_, ?_⟩
  · intro e he
    have h1 : n = 0 := by
      have := congrArg List.length he
      rw [List.length_take, List.length_nil] at this
      omega
    subst h1; simp at hb; rw [hb] at e; cases e
  · rw [val_take hn hz]
    cases neg
    · simp at hb; subst hb; rfl
    · by_cases h0 : 0 < n
      · simp [h0] at hb; subst hb; rfl
      · have h1 : n = 0 := by omega
        subst h1
        have : val ds = 0 := by rw [← val_take hn hz]; rfl
        simp at hb; subst hb; simp [signed, this]
def NatRel (x0 : Int) (out : List Int) (x : Int) : Prop := x0 = val out + 1000 ^ out.length * x ∧ Dig out ∧ (x = 0 → Tidy out) ∧ out.length ≤ 100
theorem NatRel.start (x : Int) : NatRel x [] x := ⟨by simp [val_nil], Dig.nil, fun _ => .inl rfl, by simp⟩
theorem nat_bound {x0 x : Int} {n : Nat} {v : Int} (hv : 0 ≤ v) (h : x0 = v + 1000 ^ n * x) (hx : 0 < x) (h0 : x0 ≤ 18446744073709551615) : n ≤ 7 := by
  by_cases hn : n ≤ 7
  · exact hn
  · exfalso
    have h1 := p_mono (m := 8) (n := n) (by omega)
    have h2 : 1000 ^ n * 1 ≤ 1000 ^ n * x := Int.mul_le_mul_of_nonneg_left (by omega) (Int.le_of_lt (p_pos n))
    have h3 : (1000 : Int) ^ 8 = 1000000000000000000000000 := by decide
    omega
theorem NatRel.step {x0 x : Int} {out : List Int} (h : NatRel x0 out x) (hx : 0 < x) (h0 : x0 ≤ 18446744073709551615) : NatRel x0 (out ++ [x % 1000]) (x / 1000) := by
  obtain ⟨h1, h2, h3, h4⟩ := h
  have hb := nat_bound (val_range h2).1 h1 hx h0
  refine ⟨?_, h2.snoc (by omega) (by omega), ?_, by simp; omega⟩
  · rw [val_snoc, List.length_append, List.length_singleton, p_succ]
    have e := carry_step x (1000 ^ out.length)
    have e2 : 1000 ^ out.length * 1000 * (x / 1000) = x / 1000 * (1000 ^ out.length * 1000) := Int.mul_comm _ _
    have e3 : 1000 ^ out.length * x = x * 1000 ^ out.length := Int.mul_comm _ _
    omega
  · intro e
    refine .inr ?_
    have : (out ++ [x % 1000]).getD ((out ++ [x % 1000]).length - 1) 0 = x % 1000 := by simp [List.getD]
    rw [this]; omega
theorem NatRel.stop {x0 : Int} {out : List Int} (h : NatRel x0 out 0) : val out = x0 ∧ Dig out ∧ Tidy out := ⟨by have := h.1; simp at this; exact this.symm, h.2.1, h.2.2.1 rfl⟩
set_option maxRecDepth 100000
open Go.RowKit
/-- A number of at most n digits of base 1000. -/
def Sized (n : Nat) (z : Int) : Prop := -(1000 ^ n : Int) < z ∧ z < 1000 ^ n
theorem signed_not (b : Bool) (z : Int) : signed (!b) z = - signed b z := by cases b <;> simp [signed]
theorem len_of_sized {n : Nat} {neg : Bool} {ds : List Int} (hd : Dig ds) (ht : Tidy ds) (hs : Sized n (signed neg (val ds))) : ds.length ≤ n := by
  refine ht.len hd ?_
  obtain ⟨h1, h2⟩ := hs
  have := val_range hd
  cases neg <;> simp [signed] at h1 h2 <;> omega
/-- What was there is as it was, and the block of the result (of two cells, of type T) lies at N. -/
def Kept (w : World) (N : Nat) (T : TypeId) (w' : World) : Prop := Below w.heap.size w w' ∧ w.heap.size ≤ N ∧ ∃ x y, w'.heap[N]? = some (.cells #[x, y] T (0, 0))
theorem Kept.call {w w1 w2 : World} {N : Nat} {T : TypeId} (h : Kept w N T w1) (hb : Below w1.heap.size w1 w2) : Kept w N T w2 := by
  obtain ⟨h1, h2, x, y, h3⟩ := h
  have hN := (Array.getElem?_eq_some_iff.1 h3).1
  exact ⟨h1.trans (hb.mono h1.size), h2, x, y, by rw [hb.block N hN]; exact h3⟩
theorem set_two {w : World} {N : Nat} {T : TypeId} {x y u v : Value} (h : w.heap[N]? = some (.cells #[x, y] T (0, 0))) : ((w.setCell ⟨N, 0, none⟩ u).setCell ⟨N, 1, none⟩ v).heap[N]? = some (.cells #[u, v] T (0, 0)) := by
  simp [World.setCell, Array.getElem?_modify, h]
theorem Kept.store {w w1 : World} {N : Nat} {T : TypeId} (h : Kept w N T w1) (u v : Value) : Kept w N T ((w1.setCell ⟨N, 0, none⟩ u).setCell ⟨N, 1, none⟩ v) := by
  obtain ⟨h1, h2, x, y, h3⟩ := h
  exact ⟨(h1.setCell h2 _).setCell h2 _, h2, u, v, set_two h3⟩
theorem Kept.cells {w w1 : World} {N : Nat} {T : TypeId} (h : Kept w N T w1) : (∃ x, w1.cell? ⟨N, 0, none⟩ = some x) ∧ (∃ y, w1.cell? ⟨N, 1, none⟩ = some y) ∧ w1.frozen? ⟨N, 0, none⟩ = false ∧ w1.frozen? ⟨N, 1, none⟩ = false := by
  obtain ⟨h1, h2, x, y, h3⟩ := h
  refine ⟨⟨x, by simp [World.cell?, h3]⟩, ⟨y, by simp [World.cell?, h3]⟩, by simp [World.frozen?, h3], by simp [World.frozen?, h3]⟩
theorem MadeNum.to {w : World} {z z' : Int} (h : z = z') : ∀ e w', MadeNum w z e w' → MadeNum w z' e w' := fun _ _ k => h ▸ k
theorem Try.infoU8 : (Try.prog.info? 5).map (fun i => (i.zero, i.size, i.bytes)) = some (some (.int .u8 0), 1, 1) := by kernel_rfl
theorem below_then {w W W' : World} (h : Below w.heap.size w W) (hb : Below W.heap.size W W') : Below w.heap.size w W' := h.trans (hb.mono h.size)
theorem grown_below {w w' : World} (hb : Below w.heap.size w w') (row : Option Nat) : w.grownBy w' row := ⟨hb.os, hb.tape, hb.output, hb.size, fun k hk _ => hb.block k hk⟩
theorem grown_then {a b c : World} {N : Nat} (h : a.grownBy b (some N)) (k : b.grownBy c (some N)) : a.grownBy c (some N) :=
  ⟨k.os.trans h.os, k.tape.trans h.tape, k.output.trans h.output, Nat.le_trans h.size k.size, fun i hi hn => (k.block i (Nat.lt_of_lt_of_le hi h.size) hn).trans (h.block i hi hn)⟩
theorem grown_set (w : World) (N j : Nat) (u : Value) : w.grownBy (w.setCell ⟨N, j, none⟩ u) (some N) :=
  ⟨rfl, rfl, rfl, by simp [World.setCell], fun k _ hn => Below.heap_setCell _ _ _ _ (by simpa using hn)⟩
theorem grown_drew {w w' : World} {row : Option Nat} (h : w.grownBy w' row) : w.grownBy w'.drew row := ⟨h.os, h.tape, h.output, h.size, h.block⟩
theorem Ints.grown {E T : TypeId} {k : IntKind} {w w' : World} {v : Value} {zs : List Int} {N : Nat} {cur : Array Value} {fr : Nat × Nat} (h : Ints k w v zs) (ht : Typed E w v) (hp : w.heap[N]? = some (.cells cur T fr)) (hne : T ≠ E) (hg : w.grownBy w' (some N)) : Ints k w' v zs := by
  obtain ⟨a, cap, rfl, hl, hc⟩ := h
  refine ⟨a, cap, rfl, hl, hc.imp id ?_⟩
  rintro ⟨b, off, rfl, hb, hcell⟩
  have hbN : b ≠ N := by
    rintro rfl
    obtain ⟨cur', fr', h'⟩ := ht b off _ _ rfl
    rw [hp] at h'
    simp only [Option.some.injEq, Obj.cells.injEq] at h'
    exact hne h'.2.1
  have hblk := hg.block b hb (by simpa using hbN)
  refine ⟨b, off, rfl, by have := hg.size; omega, fun i hi => ?_⟩
  rw [World.cell?_of_block (a := ⟨b, off + i, none⟩) hblk]; exact hcell i hi
theorem Typed.grown {E T : TypeId} {w w' : World} {v : Value} {N : Nat} {cur : Array Value} {fr : Nat × Nat} (ht : Typed E w v) (hp : w.heap[N]? = some (.cells cur T fr)) (hne : T ≠ E) (hg : w.grownBy w' (some N)) : Typed E w' v := by
  intro b off l c e
  obtain ⟨cur', fr', h'⟩ := ht b off l c e
  refine ⟨cur', fr', ?_⟩
  rw [hg.block b (Array.getElem?_eq_some_iff.1 h').1 ?_]
  · exact h'
  · intro e2
    simp only [Option.some.injEq] at e2
    subst e2
    rw [hp] at h'
    simp only [Option.some.injEq, Obj.cells.injEq] at h'
    exact hne h'.2.1
end Go.Proofs.Ytifbmdophoemjaa
