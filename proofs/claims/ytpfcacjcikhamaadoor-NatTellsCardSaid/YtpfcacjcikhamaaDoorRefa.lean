/- What the calls on digits return: the document's answer for layer 1, its lower half. -/
import Derived.Test.YtpfcacjcikhamaaDoorProg
import Derived.Test.YtpfcacjcikhamaaDoorDigits
import Derived.Test.YtpfcacjcikhamaaDoorInts
import Derived.WalkKit
import Derived.WalkSpells
import Derived.WalkLawsBesides
import Derived.WalkSmall
import Derived.Deep.QuietTactic
import Derived.BigQuiet
import Derived.Lib.Hide
namespace Go.Proofs.YtpfcacjcikhamaaDoor
set_option maxRecDepth 100000
open Go.RowKit
theorem Ints.below {k : IntKind} {w w' : World} {v : Value} {zs : List Int} (h : Ints k w v zs) (hb : Below w.heap.size w w') : Ints k w' v zs := by
  obtain ⟨a, cap, rfl, hc, ha⟩ := h
  refine ⟨a, cap, rfl, hc, ?_⟩
  rcases ha with h | ⟨b, off, rfl, hbl, hcell⟩
  · exact .inl h
  · exact .inr ⟨b, off, rfl, by have := hb.size; omega, fun i hi => cell_later hb (hcell i hi)⟩
theorem Ints.cell {k : IntKind} {w : World} {zs : List Int} {a : Option Addr} {l cap : Nat} (h : Ints k w (.slice a l cap) zs) {i : Nat} (hi : i < zs.length) :
    ∃ b off, a = some ⟨b, off, none⟩ ∧ b < w.heap.size ∧ w.cell? ⟨b, off + i, none⟩ = some (.int k (zs.getD i 0)) := by
  obtain ⟨a', cap', e, hc, ha⟩ := h
  simp only [Value.slice.injEq] at e
  obtain ⟨rfl, rfl, rfl⟩ := e
  rcases ha with h | ⟨b, off, rfl, hbl, hcell⟩
  · subst h; simp at hi
  · exact ⟨b, off, rfl, hbl, hcell i hi⟩
set_option maxHeartbeats 400000 in
theorem digit_any (v : Value) (ds : List Int) (i : Int) (j : Nat) (hij : Hid (i = j)) (w : World) (hv : Ints .i64 w v ds) :
    Calls Tryd.prog 85 #[v, .int .i64 i] w fun e w' => e = .returned (.int .i64 (ds.getD j 0)) ∧ w = w' := by
  have hi := hij.out
  subst hi
  have hv0 := hv
  obtain ⟨a, cap, rfl, hc, ha⟩ := hv
  by_cases hlt : j < ds.length
  · obtain ⟨b, off, rfl, hb, hcell⟩ := hv0.cell hlt
    clear hv0 ha hij
    generalize ds.getD j 0 = x at *
    go_enter Tryd.func85, Tryd.ntmps85
    go_wp2
    go_ret
    exact ⟨rfl, rfl⟩
  · have e0 : Hid (ds.getD j 0 = 0) := Lib.hid (getD_past (by omega))
    clear hv0 ha hij
    go_enter Tryd.func85, Tryd.ntmps85
    go_wp2
    go_ret
    exact ⟨ret_int e0.out.symm, rfl⟩
theorem same_past {a b : List Int} {m : Nat} (ha : a.length ≤ m) (hb : b.length ≤ m) : ∀ j, m ≤ j → a.getD j 0 = b.getD j 0 := fun j hj => by
  rw [getD_past (by omega), getD_past (by omega)]
theorem same_more {a b : List Int} {k : Nat} (h : ∀ j, k + 1 ≤ j → a.getD j 0 = b.getD j 0) (e : a.getD k 0 = b.getD k 0) : ∀ j, k ≤ j → a.getD j 0 = b.getD j 0 := fun j hj => by
  by_cases hjk : j = k
  · subst hjk; exact e
  · exact h j (by omega)
set_option maxHeartbeats 1000000 in
theorem less_any (u v : Value) (a b : List Int) (w : World) (hu : Ints .i64 w u a) (hv : Ints .i64 w v b) (ha : Dig a) (hb : Dig b) (la : a.length ≤ 1099511627776) (lb : b.length ≤ 1099511627776) :
    Calls Tryd.prog 55 #[u, v] w fun e w' => e = .returned (.int .i64 (cmpI (val a) (val b))) ∧ w = w' := by
  have HU := Lib.hid (fun (i : Int) (j : Nat) (h : Hid (i = j)) => digit_any u a i j h w hu)
  have HV := Lib.hid (fun (i : Int) (j : Nat) (h : Hid (i = j)) => digit_any v b i j h w hv)
  have HD := Lib.hid (And.intro ha hb)
  obtain ⟨ap, ac, rfl, -, -⟩ := hu
  obtain ⟨bp, bc, rfl, -, -⟩ := hv
  clear ha hb
  by_cases hab : a.length < b.length
  all_goals
    go_enter Tryd.func55, Tryd.ntmps55
    go_wp2_with fail
    go_loop [5] (fun i => ∃ (k : Nat) (z : Int), Hid (z = (k : Int) - 1) ∧ -1 ≤ z ∧ z ≤ 1099511627776 ∧ i = .int .i64 z ∧ Hid (∀ j, k ≤ j → a.getD j 0 = b.getD j 0)) (fun i => (intOf i + 1).toNat)
    case atStart => exact ⟨_, _, Lib.hid rfl, by omega, by omega, rfl, Lib.hid (same_past (by omega) (by omega))⟩
    case round =>
      obtain ⟨k, z, hz, hz1, hz2, rfl, hs⟩ := hrel
      clear hab
      by_cases h0 : 0 ≤ z
      · obtain ⟨n, rfl⟩ : ∃ n, k = n + 1 := ⟨k - 1, by have := hz.out; omega⟩
        have hn : Hid (z = (n : Int)) := Lib.hid (by have := hz.out; omega)
        have hC := Lib.hid (fun (x y : Int) (hx : a.getD n 0 = x) (hy : b.getD n 0 = y) (hlt : x < y) => val_lt_of_digit HD.out.1 HD.out.2 (n := n) (by simpa using hs.out) (by rw [hx, hy]; exact hlt))
        have hD := Lib.hid (fun (x y : Int) (hx : a.getD n 0 = x) (hy : b.getD n 0 = y) (hlt : y < x) => val_lt_of_digit HD.out.2 HD.out.1 (n := n) (fun i hi => (by simpa using hs.out i hi : _ = _).symm) (by rw [hx, hy]; exact hlt))
        have hE := Lib.hid (fun (x y : Int) (hx : a.getD n 0 = x) (hy : b.getD n 0 = y) (he : x = y) => same_more hs.out (hx.trans (he.trans hy.symm)))
        have HA1 := Lib.hid (HU.out z n hn)
        have HB1 := Lib.hid (HV.out z n hn)
        clear hs HU HV HD
        generalize hx : a.getD n 0 = x at *
        generalize hy : b.getD n 0 = y at *
        have hX := Lib.hid hx
        have hY := Lib.hid hy
        clear hx hy
        rcases Int.lt_trichotomy x y with hlt | heq | hgt
        · have hne : ¬ x = y := by omega
          go_wp2_with fail
          refine (HA1.out).mono ?_; rintro e w' ⟨rfl, rfl⟩
          go_wp2_with fail
          refine (HB1.out).mono ?_; rintro e w' ⟨rfl, rfl⟩
          go_wp2_with fail
          refine (HA1.out).mono ?_; rintro e w' ⟨rfl, rfl⟩
          go_wp2_with fail
          refine (HB1.out).mono ?_; rintro e w' ⟨rfl, rfl⟩
          go_wp2_with fail
          go_ret
          exact ⟨ret_int (cmpI_lt (hC.out x y rfl rfl hlt)).symm, rfl⟩
        · subst heq
          go_wp2_with fail
          refine (HA1.out).mono ?_; rintro e w' ⟨rfl, rfl⟩
          go_wp2_with fail
          refine (HB1.out).mono ?_; rintro e w' ⟨rfl, rfl⟩
          go_wp2_with fail
          go_round
          case rel => exact ⟨n, z - 1, Lib.hid (by have := hn.out; omega), by omega, by omega, rfl, Lib.hid (hE.out x x rfl rfl rfl)⟩
          case measure => simp [intOf]; omega
        · have hne : ¬ x = y := by omega
          have hnl : ¬ x < y := by omega
          go_wp2_with fail
          refine (HA1.out).mono ?_; rintro e w' ⟨rfl, rfl⟩
          go_wp2_with fail
          refine (HB1.out).mono ?_; rintro e w' ⟨rfl, rfl⟩
          go_wp2_with fail
          refine (HA1.out).mono ?_; rintro e w' ⟨rfl, rfl⟩
          go_wp2_with fail
          refine (HB1.out).mono ?_; rintro e w' ⟨rfl, rfl⟩
          go_wp2_with fail
          go_ret
          exact ⟨ret_int (cmpI_gt (hD.out x y rfl rfl hgt)).symm, rfl⟩
      · have he : Hid (val a = val b) := Lib.hid (val_eq_of_same (fun j => hs.out j (by have := hz.out; omega)))
        clear HU HV HD hs
        go_wp2_with fail
        go_ret
        exact ⟨ret_int (cmpI_eq he.out).symm, rfl⟩
/-- A row of the call's own reads as these numbers. -/
theorem Ints.own {w : World} {B E : Nat} {v : Value} {n : Nat} {k : IntKind} {zs : List Int} (h : w.ownsRow B E 1 v n (zs.map (Value.int k))) : Ints k w v zs := by
  obtain ⟨hl, h⟩ := h
  have hn : n = zs.length := by simpa using hl.symm
  subst hn
  rcases h with ⟨rfl, h0⟩ | ⟨g, cap, cur, rfl, _, hb, hnc, _, hs, ht⟩
  · have : zs = [] := List.length_eq_zero_iff.1 h0
    subst this
    exact ⟨none, 0, rfl, by simp, .inl rfl⟩
  · refine ⟨_, cap, rfl, hnc, .inr ⟨g, 0, rfl, ?_, fun i hi => ?_⟩⟩
    · exact (Array.getElem?_eq_some_iff.1 hb).1
    · have e : cur.toList[i]? = some (.int k (zs.getD i 0)) := by
        have h1 : (cur.toList.take (zs.length * 1))[i]? = (zs.map (Value.int k))[i]? := by rw [ht]
        rw [List.getElem?_take, if_pos (by omega)] at h1
        rw [h1]; simp [List.getD, hi]
      simp [World.cell?, hb]
      simpa using e
theorem Tryd.infoInt : (Tryd.prog.info? 3).map (fun i => (i.zero, i.size, i.bytes)) = some (some (.int .i64 0), 1, 8) := by kernel_rfl
theorem sum_step {a b out : List Int} {k : Nat} {c : Int} (h : valN a k + valN b k = val out + 1000 ^ k * c) (hl : out.length = k) (s : Int) (hs : s = a.getD k 0 + b.getD k 0 + c) :
    valN a (k + 1) + valN b (k + 1) = val (out ++ [s % 1000]) + 1000 ^ (k + 1) * (s / 1000) := by
  rw [valN, valN, val_snoc, hl, p_succ]
  have h1 := carry_step s (1000 ^ k)
  have h2 : s * 1000 ^ k = a.getD k 0 * 1000 ^ k + b.getD k 0 * 1000 ^ k + c * 1000 ^ k := by rw [hs, Int.add_mul, Int.add_mul]
  have h3 : 1000 ^ k * 1000 * (s / 1000) = s / 1000 * (1000 ^ k * 1000) := Int.mul_comm _ _
  have h4 : 1000 ^ k * c = c * 1000 ^ k := Int.mul_comm _ _
  omega
def SumRel (a b out : List Int) (k : Nat) (c : Int) : Prop := valN a k + valN b k = val out + 1000 ^ k * c ∧ out.length = k ∧ Dig out ∧ 0 ≤ c ∧ c ≤ 1
theorem SumRel.start (a b : List Int) : SumRel a b [] 0 0 := ⟨by simp [valN, val_nil], rfl, Dig.nil, by omega, by omega⟩
theorem SumRel.step {a b out : List Int} {k : Nat} {c : Int} (ha : Dig a) (hb : Dig b) (h : SumRel a b out k c) (x y : Int) (hx : a.getD k 0 = x) (hy : b.getD k 0 = y) :
    SumRel a b (out ++ [(x + y + c) % 1000]) (k + 1) ((x + y + c) / 1000) := by
  obtain ⟨h1, h2, h3, h4, h5⟩ := h
  have h6 := ha.getD k
  have h7 := hb.getD k
  rw [hx] at h6
  rw [hy] at h7
  exact ⟨sum_step h1 h2 _ (by rw [hx, hy]), by simp [h2], h3.snoc (by omega) (by omega), by omega, by omega⟩
theorem SumRel.stop {a b out : List Int} {k : Nat} {c : Int} (h : SumRel a b out k c) (ka : a.length ≤ k) (kb : b.length ≤ k) : val (out ++ [c]) = val a + val b ∧ Dig (out ++ [c]) ∧ (out ++ [c]).length = k + 1 := by
  obtain ⟨h1, h2, h3, h4, h5⟩ := h
  rw [valN_past a ka, valN_past b kb] at h1
  refine ⟨?_, h3.snoc h4 (by omega), by simp [h2]⟩
  rw [val_snoc, h2, Int.mul_comm c]; omega
theorem one_int (k : IntKind) (x : Int) : ∀ u ∈ [Value.int k x], u.oneCell' = true := by intro u hu; simp at hu; subst hu; rfl
theorem room63 {n : Nat} (h : n ≤ 1099511627776) : n + 1 ≤ maxLen := by unfold maxLen; omega
theorem room47 {n : Nat} (h : n ≤ 1099511627776) : (n + 1) * 8 ≤ 140737488355328 := by omega
/-- One number more at the end of a row of the call's own. -/
theorem own_push {B : Nat} {w wr w1 : World} {E : Nat} {o v' : Value} {n : Nat} {k : IntKind} {zs : List Int} {x : Int} {ob : Obj} (hn : n = zs.length) (hB : B ≤ wr.heap.size) (hnx : Below B w wr) (hown : wr.ownsRow B E 1 o zs.length (zs.map (Value.int k)))
    (hown' : w1.ownsRow B E 1 v' (n + 1) (zs.map (Value.int k) ++ [.int k x])) (hg : (wr.alloc ob).grownBy w1 o.ownBlock) :
    w1.ownsRow B E 1 v' (zs ++ [x]).length ((zs ++ [x]).map (Value.int k)) ∧ Below B w w1 := by
  subst hn
  refine ⟨by simpa using hown', (hnx.alloc hB ob).grown hg ?_ ?_⟩
  · simp; omega
  · intro k hk; exact (hown.lt k hk).1
theorem own_slice {w : World} {B E : Nat} {v : Value} {n : Nat} {xs : List Value} (h : w.ownsRow B E 1 v n xs) : ∃ a cap, v = .slice a n cap := by
  obtain ⟨_, h⟩ := h
  rcases h with ⟨rfl, rfl⟩ | ⟨g, cap, cur, rfl, _⟩
  · exact ⟨_, _, rfl⟩
  · exact ⟨_, _, rfl⟩
/-- What is known of a block of two cells that the call laid first. -/
theorem pair_later {w wr : World} {a b : Value} {T : TypeId} (h : Below (w.heap.size + 1) (w.alloc (.cells #[a, b] T)) wr) :
    wr.cell? ⟨w.heap.size, 0, none⟩ = some a ∧ wr.cell? ⟨w.heap.size, 1, none⟩ = some b ∧ wr.frozen? ⟨w.heap.size, 0, none⟩ = false ∧ wr.frozen? ⟨w.heap.size, 1, none⟩ = false := by
  refine ⟨?_, ?_, ?_, ?_⟩
  · rw [h.cell (p := ⟨w.heap.size, 0, none⟩) (by simp)]; simp [go_sem]
  · rw [h.cell (p := ⟨w.heap.size, 1, none⟩) (by simp)]; simp [go_sem]
  · rw [h.frozen (p := ⟨w.heap.size, 0, none⟩) (by simp)]; exact World.frozen?_alloc_at _ _ _ _ rfl
  · rw [h.frozen (p := ⟨w.heap.size, 1, none⟩) (by simp)]; exact World.frozen?_alloc_at _ _ _ _ rfl
/-- The block behind a slice value is one of cells of type E. -/
def Typed (E : TypeId) (w : World) (v : Value) : Prop := ∀ b off l cap, v = .slice (some ⟨b, off, none⟩) l cap → ∃ cur fr, w.heap[b]? = some (.cells cur E fr)
theorem Typed.below {E : TypeId} {w w' : World} {v : Value} (h : Typed E w v) (hb : Below w.heap.size w w') : Typed E w' v := fun b off l cap e => by
  obtain ⟨cur, fr, hh⟩ := h b off l cap e
  exact ⟨cur, fr, by rw [hb.block b (Array.getElem?_eq_some_iff.1 hh).1]; exact hh⟩
theorem Typed.none {E : TypeId} {w : World} {l cap : Nat} : Typed E w (.slice none l cap) := fun _ _ _ _ e => by cases e
theorem Typed.own {w : World} {B E : Nat} {v : Value} {n : Nat} {xs : List Value} (h : w.ownsRow B E 1 v n xs) : Typed E w v := by
  obtain ⟨_, h⟩ := h
  rcases h with ⟨rfl, rfl⟩ | ⟨g, cap, cur, rfl, _, hb, _⟩
  · exact Typed.none
  · intro b off l cap' e
    simp only [Value.slice.injEq, Option.some.injEq, Addr.mk.injEq] at e
    obtain ⟨⟨rfl, rfl, _⟩, _⟩ := e
    exact ⟨cur, _, hb⟩
theorem Typed.cut {E : TypeId} {w : World} {a : Option Addr} {l cap l' cap' : Nat} (h : Typed E w (.slice a l cap)) : Typed E w (.slice a l' cap') := fun b off m c e => by
  simp only [Value.slice.injEq] at e
  exact h b off l cap (by rw [e.1])
theorem heap_setCell_cells {w : World} {p : Addr} {u : Value} {b : Nat} {cur : Array Value} {E : TypeId} {fr : Nat × Nat} (h : w.heap[b]? = some (.cells cur E fr)) : ∃ cur', (w.setCell p u).heap[b]? = some (.cells cur' E fr) := by
  by_cases e : b = p.block
  · subst e
    refine ⟨if p.spot.isSome then cur else cur.setIfInBounds p.off u, ?_⟩
    simp [World.setCell, Array.getElem?_modify, h]
  · exact ⟨cur, by rw [Below.heap_setCell _ _ _ _ e]; exact h⟩
theorem Typed.set {E : TypeId} {w : World} {v : Value} (h : Typed E w v) (p : Addr) (u : Value) : Typed E (w.setCell p u) v := fun b off l cap e => by
  obtain ⟨cur, fr, hh⟩ := h b off l cap e
  obtain ⟨cur', h'⟩ := heap_setCell_cells (p := p) (u := u) hh
  exact ⟨cur', fr, h'⟩
theorem Ints.set {E T : TypeId} {k : IntKind} {w : World} {v : Value} {zs : List Int} (h : Ints k w v zs) (ht : Typed E w v) {p : Addr} (u : Value) {cur : Array Value} {fr : Nat × Nat} (hp : w.heap[p.block]? = some (.cells cur T fr)) (hne : T ≠ E) : Ints k (w.setCell p u) v zs := by
  obtain ⟨a, cap, rfl, hc, ha⟩ := h
  refine ⟨a, cap, rfl, hc, ?_⟩
  rcases ha with h | ⟨b, off, rfl, hbl, hcell⟩
  · exact .inl h
  · refine .inr ⟨b, off, rfl, by simpa [World.setCell] using hbl, fun i hi => ?_⟩
    rw [World.cell?_setCell_other]
    · exact hcell i hi
    · intro e
      obtain ⟨cur', fr', hh⟩ := ht b off _ _ rfl
      rw [e] at hp
      rw [hp] at hh
      simp only [Option.some.injEq, Obj.cells.injEq] at hh
      exact hne hh.2.1
/-- The post of a call that makes a list of digits. -/
def MadeDigits (w : World) (z : Int) (m : Nat) (e : Ending) (w' : World) : Prop := ∃ v out, e = .returned v ∧ Ints .i64 w' v out ∧ Typed 3 w' v ∧ Dig out ∧ val out = z ∧ out.length ≤ m ∧ Below w.heap.size w w'
end Go.Proofs.YtpfcacjcikhamaaDoor
