/- Layer 17: the library's sort at a list of sets of the call's own; the two comparisons. -/
import Derived.Sort.OwnSorted
import Derived.Test.YtdopgpijbilffaaLatc
import Derived.Test.YtdopgpijbilffaaLate
namespace Go.Proofs.Ytdopgpijbilffaa
set_option maxRecDepth 100000
open Go.RowKit Go.Shelf Go.Lib Go.Sort
set_option linter.unusedVariables false
abbrev U32 := { n : Nat // n < 4294967296 }
instance instU32 : Inhabited U32 := ⟨⟨0, by decide⟩⟩
def encU (x : U32) : Value := .int .u32 ((x.1 : Nat) : Int)
theorem encU_one : OneCell encU := fun _ => rfl
/-- A list of sets as values. -/
def natsU (l : List Nat) : List Value := l.map fun n => Value.int .u32 ((n : Nat) : Int)
theorem natsU_map (l : List U32) : l.map encU = natsU (l.map Subtype.val) := by simp [natsU, encU, Function.comp_def]
theorem lift_u32 : ∀ {l : List Nat}, Bd l → ∃ d : List U32, d.map Subtype.val = l
  | [], _ => ⟨[], rfl⟩
  | a :: l, h => by
    obtain ⟨d, hd⟩ := lift_u32 (l := l) (fun x hx => h x (List.mem_cons_of_mem _ hx))
    exact ⟨⟨a, h a (List.mem_cons_self ..)⟩ :: d, by rw [List.map_cons, hd]⟩
theorem holdsU {w : World} {g : Nat} {cur : Array Value} {e : TypeId} {ss : List U32} (hb : w.heap[g]? = some (.cells cur e (0, 0))) (ht : cur.toList.take ss.length = ss.map encU) : Holds encU w g 0 ss.toArray := by
  intro j hj
  have hj' : j < ss.length := by simpa using hj
  refine ⟨?_, by simp [World.frozen?, hb]⟩
  have h1 : (cur.toList.take ss.length)[j]? = (ss.map encU)[j]? := by rw [ht]
  rw [List.getElem?_take_of_lt hj'] at h1
  simp only [World.cell?, hb, Nat.zero_add]
  simp only [Option.isSome_none, Bool.false_eq_true, if_false]
  rw [← Array.getElem?_toList, h1]
  simp [hj']
theorem heapU {w : World} {g n : Nat} {os : Array Obj} {cur : Array Value} {e : TypeId} {fr : Nat × Nat} (d : Array U32) (hb : w.heap[g]? = some (.cells cur e fr)) :
    (grow (putRow encU (Sort.ahead w n) g 0 d) os).heap[g]? = some (.cells (putCells encU 0 d cur) e fr) := by
  have hg : g < w.heap.size := (Array.getElem?_eq_some_iff.1 hb).1
  rw [heap_grow_old _ _ (by simpa using hg)]
  simp [putRow, mapBlock, Sort.ahead, Array.getElem?_modify, hb, onCells]
theorem grownU {w : World} {g n : Nat} {os : Array Obj} (d : Array U32) : w.grownBy (grow (putRow encU (Sort.ahead w n) g 0 d) os) (some g) := by
  refine ⟨rfl, rfl, rfl, by simp, fun k hk hne => ?_⟩
  rw [heap_grow_old _ _ (by simpa using hk)]
  have : g ≠ k := fun e => hne (by rw [e])
  simp [putRow, mapBlock, Sort.ahead, Array.getElem?_modify, this]
theorem takeU (cur : Array Value) (ts : List U32) (h : ts.length ≤ cur.size) : (putCells encU 0 ts.toArray cur).toList.take ts.length = ts.map encU := by
  apply List.ext_getElem?
  intro j
  by_cases hj : j < ts.length
  · rw [List.getElem?_take_of_lt hj, Array.getElem?_toList]
    simp [putCells, hj, show j < cur.size by omega]
  · rw [List.getElem?_take_eq_none (by omega), List.getElem?_eq_none (by simp; omega)]
theorem ownU_sorted {w : World} {base g cap n : Nat} {e : TypeId} {os : Array Obj} {cur : Array Value} {ss ts : List U32} (hl : ts.length = ss.length) (hbase : base ≤ g) (hb : w.heap[g]? = some (.cells cur e (0, 0)))
    (h1 : ss.length ≤ cap) (h2 : cap ≤ maxLen) (h3 : cur.size = cap * 1) :
    (grow (putRow encU (Sort.ahead w n) g 0 ts.toArray) os).ownsRow base e 1 (.slice (some ⟨g, 0, none⟩) ss.length cap) ss.length (ts.map encU) :=
  ⟨by simp [hl], .inr ⟨g, cap, _, rfl, hbase, heapU _ hb, h1, h2, by simp [putCells, h3], by rw [Nat.mul_one, ← hl]; exact takeU cur ts (by omega)⟩⟩
/-- What the comparison handed to the sort must do: it answers, it may draw, it may lay blocks. -/
def CmpU (F : Nat) (cf : U32 → U32 → Int) : Prop :=
  ∀ (W : World) (x y : U32), Calls Try.prog F #[encU x, encU y] W fun e w' => e = .returned (.int .i64 (cf x y)) ∧ ∃ q os, w' = grow (W.drewN q) os
theorem perm_of {d d' : Array U32} (h : PermIn 0 d.size d d') : d'.toList.Perm d.toList := by
  have h3 := h.2.2
  rw [← h.1] at h3
  rw [show d'.extract 0 d'.size = d' from by simp] at h3
  rw [h.1, show d.extract 0 d.size = d from by simp] at h3
  exact h3
theorem pair_of {lt : U32 → U32 → Bool} {d : Array U32} (h : SortedIn lt 0 d.size d) : d.toList.Pairwise fun a b => lt b a = false := by
  rw [List.pairwise_iff_getElem]
  intro i j hi hj hij
  have := h i j (Nat.zero_le _) hij (by simpa using hj)
  have ei : i < d.size := by simpa using hi
  have ej : j < d.size := by simpa using hj
  rw [getElem!_pos d i ei, getElem!_pos d j ej] at this
  simpa using this
theorem sort17_any (w : World) (base : Nat) (v : Value) (l : List U32) (F : Nat) (cf : U32 → U32 → Int) (hO : SWO (ltOf cf)) (eg : ∀ args w, (callFunc F args).run Try.prog w = .ok (.enter F args) w) (hc : CmpU F cf)
    (hv : w.ownsRow base 22 1 v l.length (l.map encU)) (hl : l.length < 4611686018427387904) :
    Calls Try.prog 46 #[v, .func (.func F) #[] #[]] w fun e w' => e = .returned (.tuple #[]) ∧ (∃ L : List U32, L.Perm l ∧ L.Pairwise (fun a b => ltOf cf b a = false) ∧ w'.ownsRow base 22 1 v L.length (L.map encU)) ∧ w.grownBy w' v.ownBlock := by
  rcases hv.2 with ⟨rfl, he⟩ | ⟨g, cap, cur, rfl, hbase, hb, h1, h2, h3, h4⟩
  · have e0 : l = [] := by cases l with
      | nil => rfl
      | cons a l => simp at he
    subst e0
    have h := AnyF.slices_SortFunc_none (P := Try.prog) (ρ := sortU_ren) { sortU with } none 0 (.func (.func F) #[] #[]) w
    refine Calls.mono (show Calls Try.prog 46 _ _ _ from h) ?_
    rintro e w' ⟨rfl, rfl⟩
    exact ⟨rfl, ⟨[], List.Perm.refl _, List.Pairwise.nil, hv⟩, ⟨rfl, rfl, rfl, Nat.le_refl _, fun _ _ _ => rfl⟩⟩
  · have hsz : l.toArray.size = l.length := by simp
    have h := Any.slices_SortFunc (P := Try.prog) (ρ := sortU_ren) sortU encU encU_one cf hO F #[] g 0 cap l.toArray w eg (fun m os dk hs x y => hc _ x y) (holdsU hb (by simpa using h4)) (Array.getElem?_eq_some_iff.1 hb).1 (by rw [hsz]; exact hl)
    rw [hsz] at h
    refine Calls.mono (show Calls Try.prog 46 _ _ _ from h) ?_
    rintro e w' ⟨rfl, d', n, os, hp, hs, rfl⟩
    have hp2 := perm_of (d := l.toArray) (d' := d') (by rw [hsz]; exact hp)
    have hl2 : d'.toList.length = l.length := by simpa using hp2.length_eq
    have hd : d'.size = l.length := by simpa using hl2
    refine ⟨rfl, ⟨d'.toList, by simpa using hp2, pair_of (by rw [hd]; exact hs), ?_⟩, grownU d'⟩
    have := ownU_sorted (n := n) (os := os) (ts := d'.toList) hl2 hbase hb h1 h2 h3
    rw [hl2]
    exact this
theorem lt_cmp17 (x y : Int) : decide (cmp17 x y < 0) = decide (x < y) := by
  unfold cmp17
  by_cases h1 : x < y
  · simp [h1]
  · by_cases h2 : y < x <;> simp [h1, h2]
/-- Rising masks. -/
def cfC (x y : U32) : Int := cmp17 ((x.1 : Nat) : Int) ((y.1 : Nat) : Int)
theorem ltC (x y : U32) : ltOf cfC x y = decide (x.1 < y.1) := by
  unfold ltOf cfC
  rw [lt_cmp17]
  by_cases h : x.1 < y.1
  · rw [decide_eq_true h, decide_eq_true (by omega)]
  · rw [decide_eq_false h, decide_eq_false (by omega)]
theorem swoC : SWO (ltOf cfC) where
  irrefl x := by rw [ltC]; simp
  trans x y z h1 h2 := by rw [ltC] at *; simp at *; omega
  ntrans x y z h1 h2 := by rw [ltC] at *; simp at *; omega
/-- Many elements first, then rising masks. -/
def cfO (x y : U32) : Int := if cmp17 (cntN 32 y.1 : Nat) (cntN 32 x.1 : Nat) = 0 then cmp17 ((x.1 : Nat) : Int) ((y.1 : Nat) : Int) else cmp17 (cntN 32 y.1 : Nat) (cntN 32 x.1 : Nat)
instance decLtO (a b : Nat) : Decidable (ltO a b) := by unfold ltO; infer_instance
theorem keyO (a b c d : Nat) : decide ((if cmp17 (b : Int) (a : Int) = 0 then cmp17 (c : Int) (d : Int) else cmp17 (b : Int) (a : Int)) < 0) = decide (b < a ∨ (a = b ∧ c < d)) := by
  rw [decide_eq_decide]
  unfold cmp17
  by_cases h1 : (b : Int) < a
  · rw [if_pos h1, if_neg (by decide)]; omega
  · rw [if_neg h1]
    by_cases h2 : (a : Int) < b
    · rw [if_pos h2, if_neg (by decide)]; omega
    · rw [if_neg h2, if_pos rfl]
      by_cases h3 : (c : Int) < d
      · rw [if_pos h3]; omega
      · rw [if_neg h3]
        by_cases h4 : (d : Int) < c
        · rw [if_pos h4]; omega
        · rw [if_neg h4]; omega
theorem ltO17 (x y : U32) : ltOf cfO x y = decide (ltO x.1 y.1) :=
  Eq.trans (keyO (cntN 32 x.1) (cntN 32 y.1) x.1 y.1) (decide_eq_decide.2 Iff.rfl)
theorem ltO_nt {x y z : Nat} (h1 : ¬ ltO x y) (h2 : ¬ ltO y z) : ¬ ltO x z := by
  unfold ltO at *
  generalize cntN 32 x = a at *
  generalize cntN 32 y = b at *
  generalize cntN 32 z = c at *
  omega
theorem swoO : SWO (ltOf cfO) where
  irrefl x := by rw [ltO17]; exact decide_eq_false (ltO_irr _)
  trans x y z h1 h2 := by
    rw [ltO17, decide_eq_true_eq] at *
    exact ltO_tr _ _ _ h1 h2
  ntrans x y z h1 h2 := by
    rw [ltO17, decide_eq_false_iff_not] at *
    exact ltO_nt h1 h2
theorem cmpC_any : CmpU 37 cfC := fun W x y => by
  have H := Lib.hid (fun w => cmpU17_any w ((x.1 : Nat) : Int) ((y.1 : Nat) : Int))
  show Calls Try.prog _ #[.int .u32 ((x.1 : Nat) : Int), .int .u32 ((y.1 : Nat) : Int)] W fun e w' => e = .returned (.int .i64 (cmp17 ((x.1 : Nat) : Int) ((y.1 : Nat) : Int))) ∧ ∃ q os, w' = grow (W.drewN q) os
  generalize cmp17 ((x.1 : Nat) : Int) ((y.1 : Nat) : Int) = r at *
  generalize x.1 = a at *
  generalize y.1 = b at *
  go_enter Try.func37, Try.ntmps37
  go_wp2_with fail
  refine (H.out _).mono ?_; rintro e w1 ⟨rfl, rfl⟩
  go_wp2_with fail
  go_ret
  exact ⟨rfl, 0, #[], by simp [World.drewN]⟩
set_option maxHeartbeats 2000000 in
theorem cmpO_any : CmpU 27 cfO := fun W x y => by
  have HX := Lib.hid (fun w => pcount_any w x.1 x.2)
  have HY := Lib.hid (fun w => pcount_any w y.1 y.2)
  have H1 := Lib.hid (fun w => cmpI17_any w ((cntN 32 y.1 : Nat) : Int) ((cntN 32 x.1 : Nat) : Int))
  have H2 := Lib.hid (fun w => cmpU17_any w ((x.1 : Nat) : Int) ((y.1 : Nat) : Int))
  show Calls Try.prog _ #[.int .u32 ((x.1 : Nat) : Int), .int .u32 ((y.1 : Nat) : Int)] W fun e w' => e = .returned (.int .i64 (if cmp17 ((cntN 32 y.1 : Nat) : Int) ((cntN 32 x.1 : Nat) : Int) = 0 then cmp17 ((x.1 : Nat) : Int) ((y.1 : Nat) : Int) else cmp17 ((cntN 32 y.1 : Nat) : Int) ((cntN 32 x.1 : Nat) : Int))) ∧ ∃ q os, w' = grow (W.drewN q) os
  generalize cmp17 ((x.1 : Nat) : Int) ((y.1 : Nat) : Int) = c2 at *
  generalize cmp17 ((cntN 32 y.1 : Nat) : Int) ((cntN 32 x.1 : Nat) : Int) = c1 at *
  generalize cntN 32 x.1 = na at *
  generalize cntN 32 y.1 = nb at *
  generalize x.1 = a at *
  generalize y.1 = b at *
  have HO := Lib.hid (fun w g h0 h1 => or17_any w g c1 c2 h0 h1)
  generalize (if c1 = 0 then c2 else c1) = r at *
  go_enter Try.func27, Try.ntmps27
  go_wp2_with fail
  refine (HY.out _).mono ?_; rintro e w1 ⟨rfl, hd⟩
  have HD1 := Lib.hid hd
  clear hd
  go_wp2_with fail
  refine (HX.out _).mono ?_; rintro e w2 ⟨rfl, hd⟩
  have HD2 := Lib.hid (HD1.out.then hd)
  clear hd HD1
  go_wp2_with fail
  refine (H1.out _).mono ?_; rintro e w3 ⟨rfl, rfl⟩
  go_wp2_with fail
  refine (H2.out _).mono ?_; rintro e w3 ⟨rfl, rfl⟩
  have HO2 := Lib.hid (HO.out (w2.alloc (.cells #[.int .i64 c1, .int .i64 c2] 3)) w2.heap.size (by simp [go_sem]) (by simp [go_sem]))
  clear HO H1 H2 HX HY
  go_wp2_with fail
  refine (HO2.out).mono ?_; rintro e w3 ⟨rfl, rfl⟩
  go_wp2_with fail
  go_ret
  obtain ⟨n, rfl⟩ := HD2.out
  exact ⟨rfl, n, #[.cells #[.int .i64 c1, .int .i64 c2] 3], rfl⟩
end Go.Proofs.Ytdopgpijbilffaa
