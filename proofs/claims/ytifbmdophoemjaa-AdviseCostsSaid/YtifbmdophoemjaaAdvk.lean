/- Layer 18: lists of sets and of sizes in memory (what layer 17 has of them, without its own functions). -/
import Derived.Test.YtifbmdophoemjaaLatd
import Derived.Test.YtifbmdophoemjaaAdva
import Derived.Deep.RegionHeld3
import Derived.Deep.RegionLawGrows
import Derived.OwnWalk
namespace Go.Proofs.Ytifbmdophoemjaa
set_option maxRecDepth 100000
open Go.RowKit
set_option linter.unusedVariables false
def natsI (l : List Nat) : List Int := l.map fun n => ((n : Nat) : Int)
theorem natsI_get (l : List Nat) (k : Nat) : (natsI l).getD k 0 = ((l.getD k 0 : Nat) : Int) := by
  unfold natsI
  rw [List.getD_eq_getElem?_getD, List.getD_eq_getElem?_getD, List.getElem?_map]
  cases l[k]? <;> rfl
theorem natsI_len (l : List Nat) : (natsI l).length = l.length := by simp [natsI]
/-- A slice value that reads as these sets. -/
abbrev Msk (w : World) (v : Value) (l : List Nat) : Prop := Ints .u32 w v (natsI l)
theorem Msk.at {w : World} {a : Option Addr} {n cap : Nat} {l : List Nat} (h : Msk w (.slice a n cap) l) {k : Nat} (hk : k < l.length) : ∃ b off, a = some ⟨b, off, none⟩ ∧ w.cell? ⟨b, off + k, none⟩ = some (.int .u32 ((l.getD k 0 : Nat) : Int)) := by
  obtain ⟨b, off, rfl, -, hc⟩ := Ints.cell h (i := k) (by rw [natsI_len]; exact hk)
  rw [natsI_get] at hc
  exact ⟨b, off, rfl, hc⟩
theorem Msk.len {w : World} {v : Value} {l : List Nat} (h : Msk w v l) : ∃ a cap, v = .slice a l.length cap := by
  obtain ⟨a, cap, rfl, -⟩ := h
  exact ⟨a, cap, by rw [natsI_len]⟩
/-- Block V holds just these cells. -/
def RowE (w : World) (V : Nat) (E : TypeId) (xs : List Value) : Prop := w.heap[V]? = some (.cells xs.toArray E (0, 0))
theorem RowE.keep {w w' : World} {V : Nat} {E : TypeId} {xs : List Value} (h : RowE w V E xs) (hb : Below w.heap.size w w') : RowE w' V E xs := (hb.block _ (Array.getElem?_eq_some_iff.1 h).1).trans h
theorem RowE.set {w : World} {V i : Nat} {E : TypeId} {xs : List Value} (h : RowE w V E xs) (u : Value) : RowE (w.setCell ⟨V, i, none⟩ u) V E (xs.set i u) := by
  unfold RowE at *
  have e : (xs.set i u).toArray = xs.toArray.setIfInBounds i u := by rw [List.setIfInBounds_toArray]
  rw [e]
  simp [World.setCell, Array.getElem?_modify, h]
theorem RowE.at {w : World} {V i : Nat} {E : TypeId} {xs : List Value} (h : RowE w V E xs) (hi : i < xs.length) : w.cell? ⟨V, i, none⟩ = some (xs.getD i undef) ∧ w.frozen? ⟨V, i, none⟩ = false := by
  unfold RowE at h
  exact ⟨by simp [World.cell?, h, List.getD, hi], by simp [World.frozen?, h]⟩
theorem RowE.own {w : World} {B V : Nat} {E : TypeId} {xs : List Value} (h : RowE w V E xs) (hB : B ≤ V) (hl : xs.length ≤ 1000000) : w.ownsRow B E 1 (.slice (some ⟨V, 0, none⟩) xs.length xs.length) xs.length xs :=
  ⟨by simp, .inr ⟨V, xs.length, _, rfl, hB, h, Nat.le_refl _, by unfold maxLen; omega, by simp, by rw [Nat.mul_one]; exact List.take_of_length_le (by simp)⟩⟩
theorem rowE_made {w : World} {V n B : Nat} {E : TypeId} {k : IntKind} (h : w.ownsRow B E 1 (.slice (some ⟨V, 0, none⟩) n n) n (madeCells (Value.int k 0).cells (n * 1)).toList) : RowE w V E (List.replicate n (.int k 0)) := by
  rw [show (Value.int k 0).cells = #[Value.int k 0] from rfl, toList_madeCells_one, Nat.mul_one] at h
  rcases h.2 with ⟨e, -⟩ | ⟨g, cap, cur, e, -, h3, -, -, h6, h7⟩
  · cases e
  · simp only [Value.slice.injEq, Option.some.injEq, Addr.mk.injEq, and_true, true_and] at e
    obtain ⟨rfl, rfl⟩ := e
    rw [List.take_of_length_le (by rw [Array.length_toList, h6]; omega)] at h7
    unfold RowE
    rw [← h7]
    exact h3
/-- The sizes: numbers as they came in. -/
abbrev Szs (w : World) (v : Value) (ns : List Int) : Prop := Ints .i64 w v ns
theorem Szs.len {w : World} {v : Value} {ns : List Int} (h : Szs w v ns) : ∃ a cap, v = .slice a ns.length cap := by
  obtain ⟨a, cap, rfl, -⟩ := h
  exact ⟨a, cap, rfl⟩
def intsE (l : List Int) : List Value := l.map (Value.int .i64)
theorem intsE_set (l : List Int) (i : Nat) (x : Int) : (intsE l).set i (.int .i64 x) = intsE (l.set i x) := by simp [intsE, List.map_set]
theorem intsE_get (l : List Int) {i : Nat} (hi : i < l.length) : (intsE l).getD i undef = .int .i64 (l.getD i 0) := by simp [intsE, List.getD, hi]
theorem intsE_len (l : List Int) : (intsE l).length = l.length := by simp [intsE]
theorem intsE_zero (n : Nat) : List.replicate n (Value.int .i64 0) = intsE (List.replicate n 0) := by simp [intsE]
theorem getD_setI (l : List Int) (i : Nat) (x : Int) (j : Nat) (hi : i < l.length) : (l.set i x).getD j 0 = if j = i then x else l.getD j 0 := by
  simp only [List.getD_eq_getElem?_getD, List.getElem?_set]
  by_cases h : i = j
  · subst h; simp [hi]
  · rw [if_neg h, if_neg (fun e => h e.symm)]
theorem infoL18 : (Try.prog.info? 2).map (fun i => (i.zero, i.size, i.bytes)) = some (some (.int .i64 0), 1, 8) := by kernel_rfl
theorem ints_row18 {w : World} {V : Nat} {zs : List Int} (h : RowE w V 2 (intsE zs)) (hl : zs.length ≤ 1000000) : Ints .i64 w (.slice (some ⟨V, 0, none⟩) zs.length zs.length) zs := by
  have h1 := h.own (Nat.le_refl V) (by rw [intsE_len]; exact hl)
  rw [intsE_len] at h1
  exact Ints.own h1
theorem infoU32 : (Try.prog.info? 29).map (fun i => (i.zero, i.size, i.bytes)) = some (some (.int .u32 0), 1, 4) := by kernel_rfl
theorem wf_u32 {a : Int} (h : (Lit.int .u32 a).wf = true) : 0 ≤ a ∧ a ≤ 4294967295 := by
  simp [Lit.wf, IntKind.min, IntKind.max, IntKind.signed, IntKind.bits] at h
  omega
theorem wf_of32 {x : Nat} (h : x < 4294967296) : (Lit.int .u32 (x : Int)).wf = true := by
  simp [Lit.wf, IntKind.min, IntKind.max, IntKind.signed, IntKind.bits]
  omega
section
variable {P : Program} (w : World)
theorem app17_nil_run (base : Nat) (t ty e : TypeId) (i : TypeInfo) (size : Nat) (ht : P.underlying t = some (.slice e)) (hi : P.info? e = some i)
    (v : Value) (n : Nat) (xs : List Value) (hown : w.ownsRow base e size v n xs) (c : Nat) : (Builtin.append_ #[t, t] ty #[v, .slice none 0 c]).run P w = .ok v w := by
  rcases hown.2 with ⟨rfl, rfl⟩ | ⟨g, cap, cur, rfl, _, _, hnc, _⟩
  · simp [Builtin.append_, run_underlying ht, sizeOf, typeInfo, hi, Builtin.lenOf, Builtin.firstCells]
  · simp [Builtin.append_, run_underlying ht, sizeOf, typeInfo, hi, Builtin.lenOf, Builtin.firstCells, hnc, storeCells]
/-- An append of integers that are read elsewhere (nil and empty among them) to a row of the call's own. -/
theorem app17_run (base : Nat) (t ty e : TypeId) (i : TypeInfo) (z : Value) (bytes : Nat) (ht : P.underlying t = some (.slice e)) (hi : P.info? e = some i) (hz : i.zero = some z) (hsize : i.size = 1) (hby : i.bytes = bytes) (hzs : z.cells.size = 1)
    (k : IntKind) (v v2 : Value) (zs ns : List Int) (hown : w.ownsRow base e 1 v zs.length (zs.map (Value.int k))) (hv2 : Ints k w v2 ns) (h63 : zs.length + ns.length ≤ maxLen) (hbytes : (zs.length + ns.length) * bytes ≤ 140737488355328) (hbase : base ≤ w.heap.size) :
    ∃ v' w', (Builtin.append_ #[t, t] ty #[v, v2]).run P w = .ok v' w' ∧ w'.ownsRow base e 1 v' (zs ++ ns).length ((zs ++ ns).map (Value.int k)) ∧ w.grownBy w' v.ownBlock := by
  obtain ⟨a, cap, rfl, hc, ha⟩ := hv2
  have one : ∀ u ∈ ns.map (Value.int k), u.oneCell' = true := by
    intro u hu; obtain ⟨x, _, rfl⟩ := List.mem_map.1 hu; rfl
  have fin : ∀ (v' : Value) (w' : World), w'.ownsRow base e 1 v' (zs.length + ns.length) (zs.map (Value.int k) ++ ns.map (Value.int k)) → w'.ownsRow base e 1 v' (zs ++ ns).length ((zs ++ ns).map (Value.int k)) := fun v' w' h => by
    simpa using h
  cases a with
  | none =>
    have hn : ns = [] := by
      rcases ha with h | ⟨b, off, h, _⟩
      · exact h
      · cases h
    subst hn
    exact ⟨v, w, app17_nil_run w base t ty e i 1 ht hi v _ _ hown cap, fin v w (by simpa using hown), World.grownBy.refl w _⟩
  | some ad =>
    have hnews : ∀ j u, (ns.map (Value.int k))[j]? = some u → w.cell? (ad.add j) = some u := fun j u hj => by
      rcases ha with h | ⟨b, off, h, _, hcell⟩
      · subst h; simp at hj
      · simp only [Option.some.injEq] at h
        subst h
        rw [List.getElem?_map] at hj
        obtain ⟨x, hx, rfl⟩ := Option.map_eq_some_iff.1 hj
        have hl := (List.getElem?_eq_some_iff.1 hx).1
        have hh := hcell j hl
        have e1 : ns.getD j 0 = x := by simp [List.getD, hx]
        rw [e1] at hh
        by_cases h0 : j = 0
        · subst h0; simpa [Addr.add] using hh
        · simpa [Addr.add, h0] using hh
    obtain ⟨v', w', hrun, r1, r2, _⟩ := run_append_own (P := P) w base t ty e i z 1 bytes ht hi hz hsize hby hzs (by omega) v zs.length _ hown ad ns.length cap (ns.map (Value.int k)) (by simp) hnews one h63 hbytes hbase
    exact ⟨v', w', hrun, fin v' w' r1, r2⟩
/-- An append of integers that are read elsewhere, in a plain region, whatever the guard, where it says yes. -/
theorem wpList_append17 {ops : Array Oper} {rest : List Oper} {o : Oper} {a : Act} {Q : Exit → Act → World → Prop} (hw : Region.wanted o (yielded ops a.tmps) = true) (s x : Operand) (t : TypeId)
    (ho : o.op = .call { callee := .builtin .append, args := #[s, x], argTypes := #[t, t] })
    (base : Nat) (e : TypeId) (i : TypeInfo) (z : Value) (bytes : Nat) (ht : P.underlying t = some (.slice e)) (hi : P.info? e = some i) (hz : i.zero = some z) (hsize : i.size = 1) (hby : i.bytes = bytes) (hzs : z.cells.size = 1)
    (k : IntKind) (v v2 : Value) (zs ns : List Int) (hs : a.eval s = v) (hx : a.eval x = v2) (hown : w.ownsRow base e 1 v zs.length (zs.map (Value.int k))) (hv2 : Ints k w v2 ns) (h63 : zs.length + ns.length ≤ maxLen) (hbytes : (zs.length + ns.length) * bytes ≤ 140737488355328) (hbase : base ≤ w.heap.size)
    (h : ∀ v' w', w'.ownsRow base e 1 v' (zs ++ ns).length ((zs ++ ns).map (Value.int k)) → w.grownBy w' v.ownBlock → wpList P ops Q rest (a.put o.dst v') w') : wpList P ops Q (o :: rest) a w :=
  BigFrame.wpList_want hw fun _ hK => by
    obtain ⟨v', w', hrun, r1, r2⟩ := app17_run (P := P) w base t o.type e i z bytes ht hi hz hsize hby hzs k v v2 zs ns hown hv2 h63 hbytes hbase
    unfold Oper.wp
    simp [execOp, ho, resolve, invoke, builtin, hs, hx, hrun, Result.andThen]
    exact hK _ _ (h v' w' r1 r2)
theorem app17_step {ops : Array Oper} {o : Oper} {a : Act} {K : Act → World → Prop} {Q : Exit → Act → World → Prop} {E : Prop} (hgd : o.guard = none) (s x : Operand) (t : TypeId)
    (ho : o.op = .call { callee := .builtin .append, args := #[s, x], argTypes := #[t, t] })
    (base : Nat) (e : TypeId) (i : TypeInfo) (z : Value) (bytes : Nat) (ht : P.underlying t = some (.slice e)) (hi : P.info? e = some i) (hz : i.zero = some z) (hsize : i.size = 1) (hby : i.bytes = bytes) (hzs : z.cells.size = 1)
    (k : IntKind) (v v2 : Value) (zs ns : List Int) (hs : a.eval s = v) (hx : a.eval x = v2) (hown : w.ownsRow base e 1 v zs.length (zs.map (Value.int k))) (hv2 : Ints k w v2 ns) (h63 : zs.length + ns.length ≤ maxLen) (hbytes : (zs.length + ns.length) * bytes ≤ 140737488355328) (hbase : base ≤ w.heap.size)
    (h : ∀ v' w', w'.ownsRow base e 1 v' (zs ++ ns).length ((zs ++ ns).map (Value.int k)) → w.grownBy w' v.ownBlock → K (a.put o.dst v') w') :
    if Region.wanted o (yielded ops a.tmps) = true then Oper.wp P o a w K Q else E := by
  have hw : Region.wanted o (yielded ops a.tmps) = true := by simp [Region.wanted, hgd]
  rw [if_pos hw]
  obtain ⟨v', w', hrun, r1, r2⟩ := app17_run (P := P) w base t o.type e i z bytes ht hi hz hsize hby hzs k v v2 zs ns hown hv2 h63 hbytes hbase
  unfold Oper.wp
  simp [execOp, ho, resolve, invoke, builtin, hs, hx, hrun, Result.andThen]
  exact h v' w' r1 r2
end
theorem lit_more17 {w w2 : World} {o : Obj} (hg : (w.alloc o).grownBy w2 (some w.heap.size)) : Below w.heap.size w w2 :=
  (below_one w o).grown hg (by simp) (fun k hk => by have e : w.heap.size = k := Option.some.inj hk; omega)

theorem getD_mem17 {l : List Nat} {k : Nat} (hk : k < l.length) : l.getD k 0 ∈ l := by
  have e : l.getD k 0 = l[k] := by simp [List.getD, hk]
  rw [e]
  exact List.getElem_mem hk
theorem natsI_take (l : List Nat) (n : Nat) : natsI (l.take n) = (natsI l).take n := by simp [natsI, List.map_take]
theorem natsI_drop (l : List Nat) (n : Nat) : natsI (l.drop n) = (natsI l).drop n := by simp [natsI, List.map_drop]
theorem natsI_app (l m : List Nat) : natsI (l ++ m) = natsI l ++ natsI m := by simp [natsI]
theorem Msk.below {w w' : World} {v : Value} {l : List Nat} (h : Msk w v l) (hb : Below w.heap.size w w') : Msk w' v l := Ints.below h hb
/-- A row of the call's own that holds these sets. -/
abbrev UOwn (w : World) (B : Nat) (v : Value) (l : List Nat) : Prop := w.ownsRow B 29 1 v (natsI l).length ((natsI l).map (Value.int .u32))
theorem UOwn.msk {w : World} {B : Nat} {v : Value} {l : List Nat} (h : UOwn w B v l) : Msk w v l := Ints.own h
theorem UOwn.nil (w : World) (B : Nat) : UOwn w B (.slice none 0 0) [] := ⟨by simp [natsI], .inl ⟨rfl, rfl⟩⟩
theorem UOwn.form {w : World} {B : Nat} {v : Value} {l : List Nat} (h : UOwn w B v l) : ∃ a c, v = .slice a l.length c := by
  obtain ⟨a, c, e⟩ := own_slice h
  exact ⟨a, c, by rw [e, natsI_len]⟩
/-- An append of sets that are read elsewhere to a row of the call's own. -/
theorem run_app17 (w : World) (ty : TypeId) (base : Nat) (v v2 : Value) (l m : List Nat) (hown : UOwn w base v l) (hv2 : Msk w v2 m) (hl : l.length + m.length ≤ 1000000) (hbase : base ≤ w.heap.size) :
    ∃ v' w', (Builtin.append_ #[23, 23] ty #[v, v2]).run Try.prog w = .ok v' w' ∧ UOwn w' base v' (l ++ m) ∧ w.grownBy w' v.ownBlock := by
  obtain ⟨i0, hi, hz0, hz1, hz2⟩ := info_parts infoU32
  have := app17_run (P := Try.prog) w base 23 ty 29 i0 (.int .u32 0) 4 Try.underlying23 hi hz0 hz1 hz2 (by rfl) .u32 v v2 (natsI l) (natsI m) hown hv2 (by rw [natsI_len, natsI_len]; unfold maxLen; omega) (by rw [natsI_len, natsI_len]; omega) hbase
  rw [← natsI_app] at this
  exact this
theorem cut_u32 {w : World} {a : Option Addr} {n cap : Nat} {l : List Nat} (h : Msk w (.slice a n cap) l) {k : Nat} (hk : k ≤ l.length) : Msk w (.slice a k cap) (l.take k) := by
  have h1 := Ints.take h (n := k) (by rw [natsI_len]; exact hk)
  rw [← natsI_take] at h1
  exact h1
theorem own_below17 {B : Nat} {w w1 : World} {o : Value} {E n : Nat} {xs : List Value} (hB : B ≤ w.heap.size) (hnx : Below B w w) (h : w.ownsRow B E 1 o n xs) (hg : w.grownBy w1 o.ownBlock) : Below B w w1 :=
  hnx.grown hg hB (fun k hk => (h.lt k hk).1)
/-- A part of a slice. -/
theorem cut_ints17 {w : World} {a : Option Addr} {cap : Nat} {b : List Int} (hv : Ints .u32 w (.slice a b.length cap) b) {k h : Nat} (hk : k ≤ h) (hh : h ≤ b.length) :
    Ints .u32 w (.slice (if cap = k then a else a.map (·.add (k * 1))) (h - k) (cap - k)) ((b.take h).drop k) := by
  obtain ⟨a', cap', e, hc, ha⟩ := hv
  simp only [Value.slice.injEq, true_and] at e
  obtain ⟨rfl, rfl⟩ := e
  have hl : ((b.take h).drop k).length = h - k := by simp; omega
  by_cases h0 : h = k
  · subst h0
    refine ⟨_, _, by rw [hl], by rw [hl]; omega, .inl ?_⟩
    exact List.length_eq_zero_iff.1 (by rw [hl]; omega)
  · rcases ha with h' | ⟨bb, off, rfl, hbl, hcell⟩
    · subst h'; simp at hh; omega
    · rw [if_neg (by omega)]
      refine ⟨some ⟨bb, off + k, none⟩, cap - k, ?_, by rw [hl]; omega, .inr ⟨bb, off + k, rfl, hbl, fun i hi => ?_⟩⟩
      · rw [hl, Nat.mul_one]
        by_cases k0 : k = 0
        · subst k0; simp [Addr.add]
        · simp [Addr.add, k0]
      · rw [hl] at hi
        have := hcell (k + i) (by omega)
        rw [show off + k + i = off + (k + i) by omega, this]
        congr 2
        simp [List.getD, show k + i < b.length by omega, show k + i < h by omega, List.getElem?_drop]
theorem drop_as17 {b : List Int} (k : Nat) : (b.take b.length).drop k = b.drop k := by rw [List.take_length]
theorem run_from17 {w : World} {a : Option Addr} {cap l k : Nat} (hk : k ≤ l) (hs : ∃ i, Try.prog.info? 29 = some i ∧ i.size = 1) : (Instr.slice 23 (.slice a l cap) (some (.int .i64 k)) none none).run Try.prog w = .ok (.slice (if cap = k then a else a.map (·.add (k * 1))) (l - k) (cap - k)) w := by
  obtain ⟨i, hi, hs⟩ := hs
  simp [Instr.slice, run_underlying Try.underlying23, Instr.sliceBounds, Instr.sliceBound, asIntOf, sizeOf, typeInfo, hi, hs, hk, go_sem]
theorem run_upto17 {w : World} {a : Option Addr} {cap l h : Nat} (hh : h ≤ cap) (hs : ∃ i, Try.prog.info? 29 = some i ∧ i.size = 1) : (Instr.slice 23 (.slice a l cap) none (some (.int .i64 h)) none).run Try.prog w = .ok (.slice a h cap) w := by
  obtain ⟨i, hi, hs⟩ := hs
  simp [Instr.slice, run_underlying Try.underlying23, Instr.sliceBounds, Instr.sliceBound, asIntOf, sizeOf, typeInfo, hi, hh, go_sem]
theorem size117 : ∃ i, Try.prog.info? 29 = some i ∧ i.size = 1 := by
  obtain ⟨i0, hi, hz0, hz1, hz2⟩ := info_parts infoU32
  exact ⟨i0, hi, hz1⟩
theorem ints_cap17 {w : World} {a : Option Addr} {cap l : Nat} {b : List Int} (hv : Ints .u32 w (.slice a l cap) b) : b.length = l ∧ b.length ≤ cap := by
  obtain ⟨a', cap', e, hc, -⟩ := hv
  simp only [Value.slice.injEq] at e
  obtain ⟨rfl, rfl, rfl⟩ := e
  exact ⟨rfl, hc⟩
theorem upto_any17 {w : World} {a : Option Addr} {cap h : Nat} {b : List Int} (hv : Ints .u32 w (.slice a b.length cap) b) (hh : h ≤ b.length) :
    (∀ w', (Instr.slice 23 (.slice a b.length cap) none (some (.int .i64 h)) none).run Try.prog w' = .ok (.slice a h cap) w') ∧ Ints .u32 w (.slice a h cap) (b.take h) :=
  ⟨fun w' => run_upto17 (by have := (ints_cap17 hv).2; omega) size117, hv.take hh⟩
theorem UOwn.shape {w : World} {B : Nat} {v : Value} {l : List Nat} (h : UOwn w B v l) : ∃ a n c, v = .slice a n c := by
  obtain ⟨a, c, e⟩ := own_slice h
  exact ⟨a, _, c, e⟩
theorem UOwn.drew {w : World} {B : Nat} {v : Value} {l : List Nat} (h : UOwn w B v l) : UOwn w.drew B v l := h
theorem Msk.drew {w : World} {v : Value} {l : List Nat} (h : Msk w v l) : Msk w.drew v l := Msk.below h (Below.refl _ _).drew
theorem one17 (w : World) (x : Nat) : Msk (w.alloc (.cells #[.int .u32 (x : Int)] 29)) (.slice (some ⟨w.heap.size, 0, none⟩) 1 1) [x] := by
  refine ⟨_, _, rfl, Nat.le_refl _, .inr ⟨w.heap.size, 0, rfl, by simp, fun i hi => ?_⟩⟩
  have h0 : i = 0 := by simp [natsI] at hi; omega
  subst h0
  simp [go_sem, natsI]
theorem none17 (w : World) (N : Nat) : Msk w (.slice (some ⟨N, 0, none⟩) 0 0) [] := ⟨_, _, rfl, Nat.le_refl _, .inl rfl⟩
theorem wpList_app17 (w : World) {ops : Array Oper} {rest : List Oper} {o : Oper} {a : Act} {Q : Exit → Act → World → Prop} (hw : Region.wanted o (yielded ops a.tmps) = true) (s x : Operand)
    (ho : o.op = .call { callee := .builtin .append, args := #[s, x], argTypes := #[23, 23] }) (base : Nat) (v v2 : Value) (l m : List Nat) (hs : a.eval s = v) (hx : a.eval x = v2) (hown : UOwn w base v l) (hv2 : Msk w v2 m) (hl : l.length + m.length ≤ 1000000) (hbase : base ≤ w.heap.size)
    (h : ∀ v' w', UOwn w' base v' (l ++ m) → w.grownBy w' v.ownBlock → wpList Try.prog ops Q rest (a.put o.dst v') w') : wpList Try.prog ops Q (o :: rest) a w :=
  BigFrame.wpList_want hw fun _ hK => by
    obtain ⟨v', w', hrun, r1, r2⟩ := run_app17 w o.type base v v2 l m hown hv2 hl hbase
    unfold Oper.wp
    simp [execOp, ho, resolve, invoke, builtin, hs, hx, hrun, Result.andThen]
    exact hK _ _ (h v' w' r1 r2)
theorem step_app17 (w : World) {ops : Array Oper} {o : Oper} {a : Act} {K : Act → World → Prop} {E : Prop} (hgd : o.guard = none) (s x : Operand)
    (ho : o.op = .call { callee := .builtin .append, args := #[s, x], argTypes := #[23, 23] }) (base : Nat) (v v2 : Value) (l m : List Nat) (hs : a.eval s = v) (hx : a.eval x = v2) (hown : UOwn w base v l) (hv2 : Msk w v2 m) (hl : l.length + m.length ≤ 1000000) (hbase : base ≤ w.heap.size)
    (h : ∀ v' w', UOwn w' base v' (l ++ m) → w.grownBy w' v.ownBlock → K (a.put o.dst v') w') {Q : Exit → Act → World → Prop} :
    if Region.wanted o (yielded ops a.tmps) = true then Oper.wp Try.prog o a w K Q else E := by
  have hw : Region.wanted o (yielded ops a.tmps) = true := by simp [Region.wanted, hgd]
  rw [if_pos hw]
  obtain ⟨v', w', hrun, r1, r2⟩ := run_app17 w o.type base v v2 l m hown hv2 hl hbase
  unfold Oper.wp
  simp [execOp, ho, resolve, invoke, builtin, hs, hx, hrun, Result.andThen]
  exact h v' w' r1 r2
theorem UOwn.below {w w' : World} {B : Nat} {v : Value} {l : List Nat} (h : UOwn w B v l) (hb : Below w.heap.size w w') : UOwn w' B v l := by
  obtain ⟨h1, h⟩ := h
  rcases h with ⟨rfl, he⟩ | ⟨g, cap, cur, rfl, hbase, hg, r⟩
  · exact ⟨h1, .inl ⟨rfl, he⟩⟩
  · exact ⟨h1, .inr ⟨g, cap, cur, rfl, hbase, (hb.block g (Array.getElem?_eq_some_iff.1 hg).1).trans hg, r⟩⟩
set_option maxHeartbeats 2000000 in
theorem masks17_any (u v : Value) (l : List Nat) (w : World) (hu : Msk w u l) (hv : Msk w v l) (hl : l.length ≤ 1000000) :
    Calls Try.prog 12 #[u, v] w fun e w' => e = .returned (.bool true) ∧ Below w.heap.size w w' := by
  have HU := Lib.hid hu
  have HV := Lib.hid hv
  obtain ⟨a, c, rfl⟩ := hu.len
  obtain ⟨b, d, rfl⟩ := hv.len
  clear hu hv
  go_enter Try.func12, Try.ntmps12
  go_wp2_with fail
  go_loopw [5] (fun iv wr => ∃ t : Nat, t ≤ l.length ∧ iv = .int .i64 t ∧ Hid (Drew w wr)) (fun iv _ => l.length - (intOf iv).toNat)
  case atStart => exact ⟨0, Nat.zero_le _, rfl, Lib.hid (Drew.refl _)⟩
  case round =>
    obtain ⟨t, ht, rfl, HB⟩ := hrel
    by_cases h : t < l.length
    · have h' : (t : Int) < (l.length : Int) := by omega
      obtain ⟨bb, o, rfl, hc⟩ := Msk.at (HU.out.below HB.out.below) h
      obtain ⟨bb2, o2, rfl, hc2⟩ := Msk.at (HV.out.below HB.out.below) h
      have HD := Lib.hid (fun n => HB.out.then (show Drew wr (wr.drewN n) from ⟨n, rfl⟩))
      generalize l.getD t 0 = x at *
      go_wp2_with fail
      go_quiet (fail)
      have HE := Lib.hid (HD.out nq)
      go_wp2
      go_roundw
      case rel => exact ⟨t + 1, by omega, by go_num, HE⟩
      case measure => simp [intOf]; omega
    · have e : t = l.length := by omega
      subst e
      have h' : ¬ (l.length : Int) < (l.length : Int) := by omega
      go_wp2_with fail
      go_ret
      exact ⟨rfl, HB.out.below⟩
def Given (k : IntKind) (w : World) (v : Value) (zs : List Int) : Prop := Ints k w v zs ∧ ∀ n ∈ zs, (Lit.int k n).wf = true
theorem given_nil {k : IntKind} {w : World} : Given k w (.slice none 0 0) [] := ⟨⟨none, 0, rfl, by simp, .inl rfl⟩, fun _ h => by cases h⟩
theorem given_row {k : IntKind} {w : World} {x : Addr} {l c : Nat} {zs : List Int} (hl : l ≤ c) (hz : zs.length = c) (hcell : ∀ i, i < zs.length → w.cell? (x.add i) = some (.int k (zs.getD i 0))) (hw : ∀ n ∈ zs, (Lit.int k n).wf = true) :
    Given k w (.slice (some x) l c) (zs.take l) := by
  have ht : (zs.take l).length = l := by rw [List.length_take]; omega
  refine ⟨⟨some x, c, by rw [ht], by omega, ?_⟩, fun n hn => hw n (List.mem_of_mem_take hn)⟩
  by_cases h0 : l = 0
  · subst h0; exact .inl (by simp)
  · refine .inr ?_
    obtain ⟨b, off, spot⟩ := x
    have hc := hcell 0 (by omega)
    have hspot : spot = none := by simpa [Addr.add] using World.cell?_spot hc
    subst hspot
    refine ⟨b, off, rfl, World.block_lt_of_cell? w _ hc, fun i hi => ?_⟩
    rw [ht] at hi
    rw [getD_take hi]
    have hh := hcell i (by omega)
    by_cases h0 : i = 0
    · subst h0; simpa [Addr.add] using hh
    · simpa [Addr.add, h0] using hh

theorem len_max {k : IntKind} {w : World} {a : Option Addr} {len cap : Nat} {zs : List Int} (h : Given k w (.slice a len cap) zs) : zs.length = len := by
  obtain ⟨⟨_, _, e, _⟩, _⟩ := h; simp at e; exact e.2.1.symm
/-- Masks that came in are sets. -/
theorem given_msk {w : World} {v : Value} {zs : List Int} (h : Given .u32 w v zs) : ∃ l : List Nat, Msk w v l ∧ Bd l ∧ l.length = zs.length := by
  have key : ∀ zs : List Int, (∀ n ∈ zs, (Lit.int .u32 n).wf = true) → ∃ l : List Nat, natsI l = zs ∧ Bd l ∧ l.length = zs.length := by
    intro zs
    induction zs with
    | nil => intro _; exact ⟨[], rfl, Bd.nil, rfl⟩
    | cons a zs ih =>
      intro h
      obtain ⟨l, h1, h2, h3⟩ := ih (fun n hn => h n (List.mem_cons_of_mem _ hn))
      have ha := wf_u32 (h a (List.mem_cons_self ..))
      refine ⟨a.toNat :: l, ?_, fun x hx => ?_, by simp [h3]⟩
      · show ((a.toNat : Nat) : Int) :: natsI l = _
        rw [h1, Int.toNat_of_nonneg ha.1]
      · rcases List.mem_cons.1 hx with rfl | q
        · omega
        · exact h2 x q
  obtain ⟨l, h1, h2, h3⟩ := key zs h.2
  refine ⟨l, ?_, h2, h3⟩
  show Ints .u32 w v (natsI l)
  rw [h1]
  exact h.1
end Go.Proofs.Ytifbmdophoemjaa
