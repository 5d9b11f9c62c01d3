/- Sums in two orders, and in two parts; conversions of bytes. -/
import Derived.Test.YtflhicfbojmjbaaDoorExi
import Derived.Test.YtflhicfbojmjbaaDoorFlol
import Derived.ChangeSlices
namespace Go.Proofs.YtflhicfbojmjbaaDoor
set_option maxRecDepth 100000
open Go.RowKit Go.ChangeShapes
set_option linter.unusedVariables false
theorem trod_float {H : Type} {enc : TypeId × Value → H} {P : Program} {w : World} {base : Nat} {spare : Nat → Bool} {held : Bool} {fuel : Nat} {t : TypeId} {cs : List Value} {x : DataW H × List MemPlace} {k : FloatKind} (ht : P.underlying t = some (.float k)) (h : DataW.trod enc P w base spare held fuel t cs = some x) : ∃ n, cs = [.float k n] ∧ (Lit.float k n).wf = true := by
  cases fuel with
  | zero => simp [DataW.trod] at h
  | succ n =>
    unfold DataW.trod at h
    rw [ht] at h
    split at h <;> simp_all
theorem flts_nil {w : World} : Flts w (.slice none 0 0) [] := ⟨⟨none, 0, rfl, by simp, .inl rfl⟩, fun i => by simp [List.getD]⟩
theorem open_flts {H : Type} {enc : TypeId × Value → H} {P : Program} {w : World} {base : Nat} {spare : Nat → Bool} {held : Bool} {fuel : Nat} {t e : TypeId} {cs : List Value} {x : DataW H × List MemPlace} (ht : P.underlying t = some (.slice e)) (he : P.underlying e = some (.float .f64)) (hc : P.cellsOf e = 1)
    (h : DataW.trod enc P w base spare held fuel t cs = some x) : ∃ a len cap xs, cs = [.slice a len cap] ∧ Flts w (.slice a len cap) xs ∧ len ≤ 9223372036854775807 := by
  rcases DataW.trod_slice ht h with ⟨rfl, -⟩ | ⟨a, len, cap, elems, rest, n, _, rfl, rfl, hb, hl, hm, hlen, hel, -, -⟩
  · exact ⟨none, 0, 0, [], rfl, flts_nil, by decide⟩
  have each : ∀ i, i < len → ∃ m, w.cell? (a.add i) = some (.float .f64 m) ∧ W64 m := by
    intro i hi
    have h1 := hel i hi
    rw [List.getElem?_eq_getElem (by omega), hc, Nat.mul_one, Option.bind_eq_some_iff] at h1
    obtain ⟨cs', hcs, hy'⟩ := h1
    obtain ⟨m, rfl, hw⟩ := trod_float he hy'
    exact ⟨m, cell_of_cells?_one hcs, by simpa [Lit.wf, W64] using hw⟩
  refine ⟨some a, len, cap, (List.range len).map fun i => match w.cell? (a.add i) with | some (.float _ m) => m | _ => 0, rfl, ?_, by unfold maxLen at hm; omega⟩
  have hget : ∀ i, i < len → w.cell? (a.add i) = some (.float .f64 (((List.range len).map fun i => match w.cell? (a.add i) with | some (.float _ m) => m | _ => 0).getD i 0)) ∧ W64 (((List.range len).map fun i => match w.cell? (a.add i) with | some (.float _ m) => m | _ => 0).getD i 0) := by
    intro i hi
    obtain ⟨m, h1, h2⟩ := each i hi
    have e : (((List.range len).map fun i => match w.cell? (a.add i) with | some (.float _ m) => m | _ => 0).getD i 0) = m := by
      rw [List.getD, List.getElem?_map, List.getElem?_range hi]
      simp [h1]
    rw [e]; exact ⟨h1, h2⟩
  refine ⟨⟨some a, cap, by simp, by simpa using hl, ?_⟩, fun i => ?_⟩
  · by_cases h0 : len = 0
    · subst h0; exact .inl (by simp)
    · refine .inr ?_
      obtain ⟨b, off, spot⟩ := a
      have hc0 := (hget 0 (by omega)).1
      have hspot : spot = none := by simpa [Addr.add] using World.cell?_spot hc0
      subst hspot
      refine ⟨b, off, rfl, World.block_lt_of_cell? w _ hc0, fun i hi => ?_⟩
      have hh := (hget i (by simpa using hi)).1
      by_cases h0 : i = 0
      · subst h0; simpa [Addr.add] using hh
      · have e : (⟨b, off, none⟩ : Addr).add i = ⟨b, off + i, none⟩ := by simp [Addr.add, h0]
        rw [e] at hh; exact hh
  · by_cases hi : i < len
    · exact (hget i hi).2
    · have : (((List.range len).map fun i => match w.cell? (a.add i) with | some (.float _ m) => m | _ => 0).getD i 0) = 0 := by
        rw [List.getD, List.getElem?_eq_none (by simp; omega)]; rfl
      rw [this]; decide
theorem flts_len {w : World} {a : Option Addr} {len cap : Nat} {xs : List Nat} (h : Flts w (.slice a len cap) xs) : xs.length = len := by
  obtain ⟨⟨_, _, e, _⟩, _⟩ := h; simp at e; exact e.2.1.symm
set_option maxRecDepth 100000
open Go.RowKit
set_option linter.unusedVariables false
theorem totT_go (xs : List Nat) : ∀ t : Int, xs.foldl (fun t x => t + unitsI x) t = t + totT xs := by
  induction xs with
  | nil => intro t; simp [totT]
  | cons x xs ih =>
    intro t
    show List.foldl _ (t + unitsI x) xs = t + List.foldl _ (0 + unitsI x) xs
    rw [ih, ih]; omega
theorem totF_go (xs : List Nat) : ∀ f : Nat, xs.foldl (fun f x => f ||| flagN x) f = f ||| totF xs := by
  induction xs with
  | nil => intro f; simp [totF]
  | cons x xs ih =>
    intro f
    show List.foldl _ (f ||| flagN x) xs = f ||| List.foldl _ (0 ||| flagN x) xs
    rw [ih, ih, Nat.zero_or, Nat.or_assoc]
theorem totT_append (a b : List Nat) : totT (a ++ b) = totT a + totT b := by
  show List.foldl _ 0 (a ++ b) = _
  rw [List.foldl_append, totT_go b]; rfl
theorem totF_append (a b : List Nat) : totF (a ++ b) = totF a ||| totF b := by
  show List.foldl _ 0 (a ++ b) = _
  rw [List.foldl_append, totF_go b]; rfl
theorem totT_reverse (xs : List Nat) : totT xs.reverse = totT xs := by
  induction xs with
  | nil => rfl
  | cons x xs ih =>
    rw [List.reverse_cons, totT_append, ih, show x :: xs = [x] ++ xs from rfl, totT_append]
    exact Int.add_comm _ _
theorem totF_reverse (xs : List Nat) : totF xs.reverse = totF xs := by
  induction xs with
  | nil => rfl
  | cons x xs ih =>
    rw [List.reverse_cons, totF_append, ih, show x :: xs = [x] ++ xs from rfl, totF_append]
    exact Nat.or_comm _ _
theorem tot_parts (xs : List Nat) (C : Nat) : totT (xs.drop C) + totT (xs.take C) = totT xs ∧ totF (xs.drop C) ||| totF (xs.take C) = totF xs := by
  have h := List.take_append_drop C xs
  constructor
  · rw [Int.add_comm, ← totT_append, h]
  · rw [Nat.or_comm, ← totF_append, h]
theorem w64_list {xs : List Nat} (h : ∀ i, W64 (xs.getD i 0)) : ∀ x ∈ xs, W64 x := fun x hx => by
  obtain ⟨i, hi, rfl⟩ := List.mem_iff_getElem.1 hx
  have := h i
  rw [List.getD, List.getElem?_eq_getElem hi] at this
  exact this
theorem list_w64 {xs : List Nat} (h : ∀ x ∈ xs, W64 x) : ∀ i, W64 (xs.getD i 0) := fun i => by
  by_cases hi : i < xs.length
  · rw [List.getD, List.getElem?_eq_getElem hi]; exact h _ (List.getElem_mem hi)
  · rw [List.getD, List.getElem?_eq_none (by omega)]; decide
theorem few_list {xs : List Nat} (h : ∀ x ∈ xs, W64 x) : Fewer xs.length (totT xs) := by
  have := totT_fewer (list_w64 h) xs.length (Nat.le_refl _)
  rwa [List.take_length] at this
/-- Behind a world, nothing of it changed. -/
def Aft (w w' : World) : Prop := Below w.heap.size w w'
theorem Aft.refl (w : World) : Aft w w := Below.refl _ _
theorem Aft.trans {a b c : World} (h : Aft a b) (k : Aft b c) : Aft a c := below_then h k
def strB (l : List Int) : ByteArray := ⟨(l.map fun x => UInt8.ofNat x.toNat).toArray⟩
theorem conv_ints {w : World} {v : Value} {l : List Int} (h : Ints .u8 w v l) (hl : l ≠ []) (hb : Bt l) : (convert 22 9 v).run Tryd.prog w = .ok (.string (strB l)) w := by
  obtain ⟨a, cap, rfl, -, h0 | ⟨b, off, rfl, hbl, hcell⟩⟩ := h
  · exact absurd h0 hl
  have hlen : (l.map fun x => UInt8.ofNat x.toNat).length = l.length := by simp
  have := run_convert_bytes_back (P := Tryd.prog) w 22 9 5 ⟨b, off, none⟩ cap (l.map fun x => UInt8.ofNat x.toNat) Tryd.underlying22 Tryd.underlying5 Tryd.underlying9 (fun j hj => by
    have hj2 : j < l.length := by simpa using hj
    have hc := hcell j hj2
    have hm := hb _ (List.getElem_mem hj2)
    have e : l.getD j 0 = (((l.map fun x => UInt8.ofNat x.toNat)[j]).toNat : Int) := by
      rw [List.getElem_map, UInt8.toNat_ofNat_of_lt' (by show _ < 256; omega), List.getD, List.getElem?_eq_getElem hj2]
      show l[j] = _
      omega
    rw [e] at hc
    by_cases h0 : j = 0
    · subst h0; simpa [Addr.add] using hc
    · simpa [Addr.add, h0] using hc)
  rw [hlen] at this
  exact this
theorem conv_own {w : World} {B : Nat} {v : Value} {l : List Int} (h : BOwn w B v l) (hl : 3 ≤ l.length) (hb : Bt l) : ∀ w', Aft w w' → (convert 22 9 v).run Tryd.prog w' = .ok (.string (strB l)) w' :=
  fun w' ha => conv_ints ((Ints.own h).below ha) (by intro e; subst e; simp at hl) hb
theorem padd_few (w : World) (N f x m : Nat) (s : Int) (hs : SumAt w N f s) (hx : W64 x) (hT : Tab64 w) (hr : Fewer m (s + unitsI x)) (hm : m ≤ 1000) :
    Calls Tryd.prog 13 #[.pointer (some ⟨N, 0, none⟩), .float .f64 x] w (JoinP N (f ||| flagN x) (s + unitsI x) w) := padd_fit w N f x s hs hx hT (hr.fits hm)
/-- One float more to a list. -/
theorem padd_list (w : World) (N x : Nat) (l : List Nat) (hs : SumAt w N (totF l) (totT l)) (hl : ∀ y ∈ l, W64 y) (hx : W64 x) (hn : l.length ≤ 900) (hT : Tab64 w) :
    Calls Tryd.prog 13 #[.pointer (some ⟨N, 0, none⟩), .float .f64 x] w (JoinP N (totF (l ++ [x])) (totT (l ++ [x])) w) := by
  have hf : Fewer (l ++ [x]).length (totT (l ++ [x])) := few_list (fun y hy => by
    rw [List.mem_append, List.mem_singleton] at hy
    rcases hy with h | h
    · exact hl y h
    · rw [h]; exact hx)
  rw [totT_snoc] at hf
  rw [totF_snoc, totT_snoc]
  exact padd_few w N _ x _ _ hs hx hT hf (by simp; omega)
/-- Four sums of a list's parts: from the first on, from the last on, below a place, from it on. -/
def Ord5 (xs : List Nat) (C i j m N : Nat) (w : World) : Prop :=
  SumAt w N (totF (xs.take i)) (totT (xs.take i)) ∧ SumAt w (N + 1) (totF (xs.reverse.take j)) (totT (xs.reverse.take j)) ∧ SumAt w (N + 1 + 1) (totF ((xs.take m).take C)) (totT ((xs.take m).take C)) ∧ SumAt w (N + 1 + 1 + 1) (totF ((xs.take m).drop C)) (totT ((xs.take m).drop C))
theorem take_c (xs : List Nat) {k C : Nat} (hk : k < xs.length) (h : k < C) : (xs.take (k + 1)).take C = (xs.take k).take C ++ [xs.getD k 0] ∧ (xs.take (k + 1)).drop C = (xs.take k).drop C := by
  rw [take_snocN xs k hk]
  have hl : (xs.take k).length = k := by rw [List.length_take]; omega
  generalize xs.take k = l at *
  generalize xs.getD k 0 = y at *
  constructor
  · rw [List.take_of_length_le (show (l ++ [y]).length ≤ C by simp; omega), List.take_of_length_le (show l.length ≤ C by omega)]
  · rw [List.drop_of_length_le (show (l ++ [y]).length ≤ C by simp; omega), List.drop_of_length_le (show l.length ≤ C by omega)]
theorem take_d (xs : List Nat) {k C : Nat} (hk : k < xs.length) (h : ¬ k < C) : (xs.take (k + 1)).take C = (xs.take k).take C ∧ (xs.take (k + 1)).drop C = (xs.take k).drop C ++ [xs.getD k 0] := by
  rw [take_snocN xs k hk]
  have hl : (xs.take k).length = k := by rw [List.length_take]; omega
  constructor
  · rw [List.take_append_of_le_length (by omega)]
  · rw [List.drop_append_of_le_length (by omega)]
theorem rev_getD (xs : List Nat) {k : Nat} (hk : k < xs.length) : xs.reverse.getD k 0 = xs.getD (xs.length - 1 - k) 0 := by
  rw [List.getD, List.getD, List.getElem?_reverse hk]
theorem Ord5.start (xs : List Nat) (C : Nat) (w : World) (N : Nat) (h0 : SumAt w N 0 0) (h1 : SumAt w (N + 1) 0 0) (h2 : SumAt w (N + 1 + 1) 0 0) (h3 : SumAt w (N + 1 + 1 + 1) 0 0) : Ord5 xs C 0 0 0 N w := by
  unfold Ord5
  simp only [List.take_zero, List.take_nil, List.drop_nil]
  exact ⟨h0, h1, h2, h3⟩
def OrdP (xs : List Nat) (C i j m N : Nat) (w : World) (e : Ending) (w' : World) : Prop := e = .returned (.bool true) ∧ Ord5 xs C i j m N w' ∧ Below N w w'
theorem grown_from {w w' : World} {N M : Nat} (h : w.grownBy w' (some M)) (hN : N ≤ M) (hM : M < w.heap.size) : Below N w w' :=
  (Below.refl N w).grown h (by omega) (fun k hk => by simp only [Option.some.injEq] at hk; omega)
theorem mem_take64 {xs : List Nat} (h : ∀ x ∈ xs, W64 x) (k : Nat) : ∀ x ∈ xs.take k, W64 x := fun x hx => h x (List.mem_of_mem_take hx)
theorem mem_drop64 {xs : List Nat} (h : ∀ x ∈ xs, W64 x) (k : Nat) : ∀ x ∈ xs.drop k, W64 x := fun x hx => h x (List.mem_of_mem_drop hx)
theorem ord_a (xs : List Nat) (C i j m N : Nat) (w : World) (h : Ord5 xs C i j m N w) (hw : ∀ x ∈ xs, W64 x) (hl : xs.length ≤ 60) (hi : i < xs.length) (hT : Tab64 w) :
    Calls Tryd.prog 13 #[.pointer (some ⟨N, 0, none⟩), .float .f64 (xs.getD i 0)] w (OrdP xs C (i + 1) j m N w) := by
  obtain ⟨o0, o1, o2, o3⟩ := h
  refine (padd_list w N (xs.getD i 0) (xs.take i) o0 (mem_take64 hw _) (list_w64 hw i) (by rw [List.length_take]; omega) hT).mono ?_
  rintro e w' ⟨he, h1, h2⟩
  rw [← take_snocN xs i hi] at h1
  exact ⟨he, ⟨h1, o1.grown o0 (by omega) h2, o2.grown o0 (by omega) h2, o3.grown o0 (by omega) h2⟩, grown_from h2 (Nat.le_refl _) o0.lt⟩
theorem ord_b (xs : List Nat) (C i j m N : Nat) (w : World) (h : Ord5 xs C i j m N w) (hw : ∀ x ∈ xs, W64 x) (hl : xs.length ≤ 60) (hj : j < xs.length) (hT : Tab64 w) :
    Calls Tryd.prog 13 #[.pointer (some ⟨N + 1, 0, none⟩), .float .f64 (xs.getD (xs.length - 1 - j) 0)] w (OrdP xs C i (j + 1) m N w) := by
  obtain ⟨o0, o1, o2, o3⟩ := h
  rw [← rev_getD xs hj]
  have hr : ∀ x ∈ xs.reverse, W64 x := fun x hx => hw x (List.mem_reverse.1 hx)
  refine (padd_list w (N + 1) (xs.reverse.getD j 0) (xs.reverse.take j) o1 (mem_take64 hr _) (list_w64 hr j) (by rw [List.length_take]; simp; omega) hT).mono ?_
  rintro e w' ⟨he, h1, h2⟩
  rw [← take_snocN xs.reverse j (by simpa using hj)] at h1
  exact ⟨he, ⟨o0.grown o1 (by omega) h2, h1, o2.grown o1 (by omega) h2, o3.grown o1 (by omega) h2⟩, grown_from h2 (by omega) o1.lt⟩
theorem ord_c (xs : List Nat) (C i j m N : Nat) (w : World) (h : Ord5 xs C i j m N w) (hw : ∀ x ∈ xs, W64 x) (hl : xs.length ≤ 60) (hm : m < xs.length) (hC : m < C) (hT : Tab64 w) :
    Calls Tryd.prog 13 #[.pointer (some ⟨N + 1 + 1, 0, none⟩), .float .f64 (xs.getD m 0)] w (OrdP xs C i j (m + 1) N w) := by
  obtain ⟨o0, o1, o2, o3⟩ := h
  obtain ⟨t1, t2⟩ := take_c xs hm hC
  refine (padd_list w (N + 1 + 1) (xs.getD m 0) ((xs.take m).take C) o2 (mem_take64 (mem_take64 hw _) _) (list_w64 hw m) (by rw [List.length_take, List.length_take]; omega) hT).mono ?_
  rintro e w' ⟨he, h1, h2⟩
  rw [← t1] at h1
  exact ⟨he, ⟨o0.grown o2 (by omega) h2, o1.grown o2 (by omega) h2, h1, by rw [t2]; exact o3.grown o2 (by omega) h2⟩, grown_from h2 (by omega) o2.lt⟩
theorem ord_d (xs : List Nat) (C i j m N : Nat) (w : World) (h : Ord5 xs C i j m N w) (hw : ∀ x ∈ xs, W64 x) (hl : xs.length ≤ 60) (hm : m < xs.length) (hC : ¬ m < C) (hT : Tab64 w) :
    Calls Tryd.prog 13 #[.pointer (some ⟨N + 1 + 1 + 1, 0, none⟩), .float .f64 (xs.getD m 0)] w (OrdP xs C i j (m + 1) N w) := by
  obtain ⟨o0, o1, o2, o3⟩ := h
  obtain ⟨t1, t2⟩ := take_d xs hm hC
  refine (padd_list w (N + 1 + 1 + 1) (xs.getD m 0) ((xs.take m).drop C) o3 (mem_drop64 (mem_take64 hw _) _) (list_w64 hw m) (by rw [List.length_drop, List.length_take]; omega) hT).mono ?_
  rintro e w' ⟨he, h1, h2⟩
  rw [← t2] at h1
  exact ⟨he, ⟨o0.grown o3 (by omega) h2, o1.grown o3 (by omega) h2, by rw [t1]; exact o2.grown o3 (by omega) h2, h1⟩, grown_from h2 (by omega) o3.lt⟩
/-- The end: the two parts joined; three sums in one state. -/
def OrdEnd (xs : List Nat) (N : Nat) (w : World) : Prop := SumAt w N (totF xs) (totT xs) ∧ SumAt w (N + 1) (totF xs) (totT xs) ∧ SumAt w (N + 1 + 1 + 1) (totF xs) (totT xs)
theorem ord_end (xs : List Nat) (C n N : Nat) (w : World) (h : Ord5 xs C n n n N w) (hn : n = xs.length) (hw : ∀ x ∈ xs, W64 x) (hl : xs.length ≤ 60) :
    Calls Tryd.prog 10 #[.pointer (some ⟨N + 1 + 1 + 1, 0, none⟩), .pointer (some ⟨N + 1 + 1, 0, none⟩)] w fun e w' => e = .returned (.bool true) ∧ OrdEnd xs N w' ∧ Below N w w' := by
  subst hn
  obtain ⟨o0, o1, o2, o3⟩ := h
  rw [List.take_length] at o0 o2 o3
  rw [List.take_of_length_le (show xs.reverse.length ≤ xs.length by simp), totF_reverse, totT_reverse] at o1
  obtain ⟨p1, p2⟩ := tot_parts xs C
  have hf := (few_list hw).fits (by omega)
  rw [← p1] at hf
  refine (pjoin_fit w _ _ _ _ _ _ o3 o2 hf).mono ?_
  rintro e w' ⟨he, h1, h2⟩
  rw [p1, p2] at h1
  exact ⟨he, ⟨o0.grown o3 (by omega) h2, o1.grown o3 (by omega) h2, h1⟩, grown_from h2 (by omega) o3.lt⟩
theorem valueW_w64 (f : Nat) (t : Int) : W64 (valueW f t) := by
  unfold valueW
  split
  · decide
  · split
    · decide
    · split
      · decide
      · split
        · decide
        · exact sign_fits4 _ (nearW_w64 _ _)
end Go.Proofs.YtflhicfbojmjbaaDoor
