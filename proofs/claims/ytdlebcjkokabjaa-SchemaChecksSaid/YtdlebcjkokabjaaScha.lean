/- Layer 11: what a schema is, in memory and as lists; slices of texts of the call's own. -/
import Derived.Test.YtdlebcjkokabjaaNamh
import Derived.Lib.AppendZeros
namespace Go.Proofs.Ytdlebcjkokabjaa
set_option maxRecDepth 100000
open Go.RowKit
set_option linter.unusedVariables false
/-- A schema: dimensions (a text and a number), whole measures, real measures, views. -/
structure Sc where
  ds : List (ByteArray × Int)
  is : List ByteArray
  ns : List ByteArray
  vs : List Int
def dn (ds : List (ByteArray × Int)) (i : Nat) : ByteArray := (ds.getD i (ByteArray.empty, 0)).1
def dz (ds : List (ByteArray × Int)) (i : Nat) : Int := (ds.getD i (ByteArray.empty, 0)).2
theorem dn_get {ds : List (ByteArray × Int)} {i : Nat} (h : i < ds.length) : dn ds i = ds[i].1 := by simp [dn, List.getD, List.getElem?_eq_getElem h]
theorem dz_get {ds : List (ByteArray × Int)} {i : Nat} (h : i < ds.length) : dz ds i = ds[i].2 := by simp [dz, List.getD, List.getElem?_eq_getElem h]
/-- A slice of dimensions: two cells each. -/
def Dims (w : World) (v : Value) (ds : List (ByteArray × Int)) : Prop :=
  ∃ a cap, v = .slice a ds.length cap ∧ ds.length ≤ cap ∧ ds.length ≤ 9223372036854775807 ∧ (ds = [] ∨ ∃ b off, a = some ⟨b, off, none⟩ ∧ b < w.heap.size ∧
    ∀ i, i < ds.length → w.cell? ⟨b, off + i * 2, none⟩ = some (.string (dn ds i)) ∧ w.cell? ⟨b, off + i * 2 + 1, none⟩ = some (.int .i64 (dz ds i)))
theorem Dims.below {w w' : World} {v : Value} {ds : List (ByteArray × Int)} (h : Dims w v ds) (hb : Below w.heap.size w w') : Dims w' v ds := by
  obtain ⟨a, cap, rfl, h1, h2, h3⟩ := h
  refine ⟨a, cap, rfl, h1, h2, ?_⟩
  rcases h3 with h3 | ⟨b, off, rfl, hlt, hc⟩
  · exact .inl h3
  · exact .inr ⟨b, off, rfl, Nat.lt_of_lt_of_le hlt hb.size, fun i hi => ⟨(hb.cell (p := ⟨b, _, none⟩) hlt).trans (hc i hi).1, (hb.cell (p := ⟨b, _, none⟩) hlt).trans (hc i hi).2⟩⟩
abbrev SchV (D I N V : Value) : Value := .agg #[D, I, N, V]
abbrev SchO (D I N V : Value) : Obj := .cells #[D, I, N, V] 26
/-- The four slices of a schema. -/
structure Sch4 (w : World) (D I N V : Value) (S : Sc) : Prop where
  d : Dims w D S.ds
  i : Strs w I S.is
  n : Strs w N S.ns
  v : Ints .u32 w V S.vs
theorem Sch4.below {w w' : World} {D I N V : Value} {S : Sc} (h : Sch4 w D I N V S) (hb : Below w.heap.size w w') : Sch4 w' D I N V S := ⟨h.d.below hb, h.i.below hb, h.n.below hb, h.v.below hb⟩
theorem Sch4.slices {w : World} {D I N V : Value} {S : Sc} (h : Sch4 w D I N V S) : (∃ a c, D = .slice a S.ds.length c) ∧ (∃ a c, I = .slice a S.is.length c) ∧ (∃ a c, N = .slice a S.ns.length c) ∧ ∃ a c, V = .slice a S.vs.length c := by
  obtain ⟨⟨a, c, h1, -⟩, ⟨a2, c2, h2, -⟩, ⟨a3, c3, h3, -⟩, a4, c4, h4, -⟩ := h
  exact ⟨⟨a, c, h1⟩, ⟨a2, c2, h2⟩, ⟨a3, c3, h3⟩, a4, c4, h4⟩
/-- The numbers of a schema fit, its texts are no longer than texts may be. -/
structure SWf (S : Sc) : Prop where
  d : ∀ d ∈ S.ds, d.1.size ≤ maxLen ∧ -9223372036854775808 ≤ d.2 ∧ d.2 ≤ 9223372036854775807
  i : ∀ s ∈ S.is, s.size ≤ maxLen
  n : ∀ s ∈ S.ns, s.size ≤ maxLen
  v : ∀ v ∈ S.vs, 0 ≤ v ∧ v ≤ 4294967295
theorem cell_hold {w w' : World} {p : Addr} {v : Value} (hb : Below w.heap.size w w') (h : w.cell? p = some v) : w'.cell? p = some v := by
  rw [hb.cell (World.block_lt_of_cell? w p h)]; exact h
/-- A box of a schema. -/
def Box (w : World) (N : Nat) (D I M V : Value) : Prop := w.heap[N]? = some (.cells #[D, I, M, V] 26 (0, 0))
theorem Box.reads {w : World} {N : Nat} {D I M V : Value} (h : Box w N D I M V) : w.cell? ⟨N, 0, none⟩ = some D ∧ w.cell? ⟨N, 1, none⟩ = some I ∧ w.cell? ⟨N, 2, none⟩ = some M ∧ w.cell? ⟨N, 3, none⟩ = some V := by
  unfold Box at h
  refine ⟨by simp [World.cell?, h], by simp [World.cell?, h], by simp [World.cell?, h], by simp [World.cell?, h]⟩
theorem Box.lt {w : World} {N : Nat} {D I M V : Value} (h : Box w N D I M V) : N < w.heap.size := (Array.getElem?_eq_some_iff.1 h).1
theorem Box.below {w w' : World} {N : Nat} {D I M V : Value} (h : Box w N D I M V) (hb : Below w.heap.size w w') : Box w' N D I M V := by
  unfold Box; rw [hb.block N h.lt]; exact h
theorem box_new (w : World) (D I M V : Value) : Box (w.alloc (SchO D I M V)) w.heap.size D I M V := heap_alloc_new w _
/-- All names, in their order. -/
def namesL (S : Sc) : List ByteArray := S.ds.map Prod.fst ++ S.is ++ S.ns
def cntB (S : Sc) : Bool := decide (1 ≤ S.ds.length) && decide (S.ds.length ≤ 6) && decide (S.is.length ≤ 3) && decide (S.ns.length ≤ 2) && decide (S.vs.length ≤ 15)
theorem cnt_iff {S : Sc} : cntB S = true ↔ (1 ≤ S.ds.length ∧ S.ds.length ≤ 6 ∧ S.is.length ≤ 3 ∧ S.ns.length ≤ 2 ∧ S.vs.length ≤ 15) := by simp [cntB, and_assoc]
def prodL (ds : List (ByteArray × Int)) : Int := ds.foldl (fun p d => p * d.2) 1
theorem prod_next {ds : List (ByteArray × Int)} {k : Nat} (hk : k < ds.length) : prodL (ds.take (k + 1)) = prodL (ds.take k) * dz ds k := by
  unfold prodL
  rw [List.take_add_one, List.getElem?_eq_getElem hk, List.foldl_append, dz_get hk]
  rfl
/-- The k-th Size, and the product up to it. -/
def sizAt (ds : List (ByteArray × Int)) (k : Nat) : Bool := decide (1 ≤ dz ds k) && decide (dz ds k ≤ 4096) && decide (prodL (ds.take (k + 1)) ≤ 1099511627776)
def sizB (ds : List (ByteArray × Int)) : Bool := (List.range ds.length).all (sizAt ds)
theorem siz_bad {ds : List (ByteArray × Int)} {k : Nat} (hk : k < ds.length) (h : sizAt ds k = false) : sizB ds = false := List.all_eq_false.2 ⟨k, by simpa using hk, by simp [h]⟩
theorem siz_good {ds : List (ByteArray × Int)} (h : ∀ j, j < ds.length → sizAt ds j = true) : sizB ds = true := List.all_eq_true.2 fun x hx => h x (by simpa using hx)
theorem siz_get {ds : List (ByteArray × Int)} (h : sizB ds = true) {k : Nat} (hk : k < ds.length) : 1 ≤ dz ds k ∧ dz ds k ≤ 4096 ∧ prodL (ds.take (k + 1)) ≤ 1099511627776 := by
  have := List.all_eq_true.1 h k (by simpa using hk)
  simpa [sizAt, and_assoc] using this
/-- The k-th view. -/
def vieAt (m : Int) (vs : List Int) (k : Nat) : Bool := decide (vs.getD k 0 < m) && (decide (k = 0) || decide (vs.getD (k - 1) 0 < vs.getD k 0))
def vieB (m : Int) (vs : List Int) : Bool := (List.range vs.length).all (vieAt m vs)
theorem vie_bad {m : Int} {vs : List Int} {k : Nat} (hk : k < vs.length) (h : vieAt m vs k = false) : vieB m vs = false := List.all_eq_false.2 ⟨k, by simpa using hk, by simp [h]⟩
theorem vie_good {m : Int} {vs : List Int} (h : ∀ j, j < vs.length → vieAt m vs j = true) : vieB m vs = true := List.all_eq_true.2 fun x hx => h x (by simpa using hx)
/-- The set of all dimensions. -/
def fullL (ds : List (ByteArray × Int)) : Int := 2 ^ ds.length - 1
def goodN (l : List ByteArray) : Bool := (List.range l.length).all fun k => nameB (txt l k)
theorem goodN_bad {l : List ByteArray} {k : Nat} (hk : k < l.length) (h : nameB (txt l k) = false) : goodN l = false := List.all_eq_false.2 ⟨k, by simpa using hk, by simp [h]⟩
theorem goodN_good {l : List ByteArray} (h : ∀ j, j < l.length → nameB (txt l j) = true) : goodN l = true := List.all_eq_true.2 fun x hx => h x (by simpa using hx)
/-- The error of a schema, or 0. -/
def checkL (S : Sc) : Nat := if cntB S = false then 3 else if goodN (namesL S) = false then 8 else if 0 ≤ twiceL (namesL S) then 9 else if sizB S.ds = false then 2 else if vieB (fullL S.ds) S.vs = false then 6 else 0
theorem check_le (S : Sc) : checkL S ≤ 9 := by unfold checkL; repeat' split <;> try decide
/-- A slice of texts of the call's own. -/
abbrev SOwn (w : World) (B : Nat) (v : Value) (l : List ByteArray) : Prop := w.ownsRow B 9 1 v l.length (l.map Value.string)
theorem sown0 (w : World) (B : Nat) : SOwn w B (.slice none 0 0) [] := ⟨by simp, .inl ⟨rfl, rfl⟩⟩
theorem Strs.own {w : World} {B : Nat} {v : Value} {l : List ByteArray} (h : SOwn w B v l) : Strs w v l := by
  obtain ⟨hl, h⟩ := h
  rcases h with ⟨rfl, h0⟩ | ⟨g, cap, cur, rfl, _, hb, hnc, hm, hs, ht⟩
  · have : l = [] := List.length_eq_zero_iff.1 h0
    subst this
    exact ⟨none, 0, rfl, by simp, by simp, .inl rfl⟩
  · refine ⟨_, cap, rfl, hnc, by unfold maxLen at hm; omega, .inr ⟨g, 0, rfl, (Array.getElem?_eq_some_iff.1 hb).1, fun i hi => ?_⟩⟩
    have e : cur.toList[i]? = some (.string (txt l i)) := by
      have h1 : (cur.toList.take (l.length * 1))[i]? = (l.map Value.string)[i]? := by rw [ht]
      rw [List.getElem?_take, if_pos (by omega)] at h1
      rw [h1]; simp [txt, List.getD, hi]
    rw [Nat.zero_add, cell_of_row _ _ i _ _ (0, 0) hb]
    simpa using e
section
variable {P : Program} (w : World)
/-- An append of texts that are read elsewhere (nil and empty among them) to a row of the call's own. -/
theorem run_append_strs (base : Nat) (t ty e : TypeId) (i : TypeInfo) (z : Value) (bytes : Nat) (ht : P.underlying t = some (.slice e)) (hi : P.info? e = some i) (hz : i.zero = some z) (hsize : i.size = 1) (hby : i.bytes = bytes) (hzs : z.cells.size = 1)
    (v v2 : Value) (zs ns : List ByteArray) (hown : w.ownsRow base e 1 v zs.length (zs.map Value.string)) (hv2 : Strs w v2 ns) (h63 : zs.length + ns.length ≤ maxLen) (hbytes : (zs.length + ns.length) * bytes ≤ 140737488355328) (hbase : base ≤ w.heap.size) :
    ∃ v' w', (Builtin.append_ #[t, t] ty #[v, v2]).run P w = .ok v' w' ∧ w'.ownsRow base e 1 v' (zs ++ ns).length ((zs ++ ns).map Value.string) ∧ w.grownBy w' v.ownBlock := by
  obtain ⟨a, cap, rfl, hc, -, ha⟩ := hv2
  have one : ∀ u ∈ ns.map Value.string, u.oneCell' = true := by
    intro u hu; obtain ⟨x, _, rfl⟩ := List.mem_map.1 hu; rfl
  have fin : ∀ (v' : Value) (w' : World), w'.ownsRow base e 1 v' (zs.length + ns.length) (zs.map Value.string ++ ns.map Value.string) → w'.ownsRow base e 1 v' (zs ++ ns).length ((zs ++ ns).map Value.string) := fun v' w' h => by
    simpa using h
  cases a with
  | none =>
    have hn : ns = [] := by
      rcases ha with h | ⟨b, off, h, _⟩
      · exact h
      · cases h
    subst hn
    exact ⟨v, w, run_append_nil w base t ty e i 1 ht hi v _ _ hown cap, fin v w (by simpa using hown), World.grownBy.refl w _⟩
  | some ad =>
    have hnews : ∀ j u, (ns.map Value.string)[j]? = some u → w.cell? (ad.add j) = some u := fun j u hj => by
      rcases ha with h | ⟨b, off, h, _, hcell⟩
      · subst h; simp at hj
      · simp only [Option.some.injEq] at h
        subst h
        rw [List.getElem?_map] at hj
        obtain ⟨x, hx, rfl⟩ := Option.map_eq_some_iff.1 hj
        have hl := (List.getElem?_eq_some_iff.1 hx).1
        have hh := hcell j hl
        have e1 : txt ns j = x := by simp [txt, List.getD, hx]
        rw [e1] at hh
        by_cases h0 : j = 0
        · subst h0; simpa [Addr.add] using hh
        · simpa [Addr.add, h0] using hh
    obtain ⟨v', w', hrun, r1, r2, _⟩ := run_append_own (P := P) w base t ty e i z 1 bytes ht hi hz hsize hby hzs (by omega) v zs.length _ hown ad ns.length cap (ns.map Value.string) (by simp) hnews one h63 hbytes hbase
    exact ⟨v', w', hrun, fin v' w' r1, r2⟩
/-- An append of texts that are read elsewhere, in a plain region, whatever the guard, where it says yes. -/
theorem wpList_append_strs {ops : Array Oper} {rest : List Oper} {o : Oper} {a : Act} {Q : Exit → Act → World → Prop} (hw : Region.wanted o (yielded ops a.tmps) = true) (s x : Operand) (t : TypeId)
    (ho : o.op = .call { callee := .builtin .append, args := #[s, x], argTypes := #[t, t] })
    (base : Nat) (e : TypeId) (i : TypeInfo) (z : Value) (bytes : Nat) (ht : P.underlying t = some (.slice e)) (hi : P.info? e = some i) (hz : i.zero = some z) (hsize : i.size = 1) (hby : i.bytes = bytes) (hzs : z.cells.size = 1)
    (v v2 : Value) (zs ns : List ByteArray) (hs : a.eval s = v) (hx : a.eval x = v2) (hown : w.ownsRow base e 1 v zs.length (zs.map Value.string)) (hv2 : Strs w v2 ns) (h63 : zs.length + ns.length ≤ maxLen) (hbytes : (zs.length + ns.length) * bytes ≤ 140737488355328) (hbase : base ≤ w.heap.size)
    (h : ∀ v' w', w'.ownsRow base e 1 v' (zs ++ ns).length ((zs ++ ns).map Value.string) → w.grownBy w' v.ownBlock → wpList P ops Q rest (a.put o.dst v') w') : wpList P ops Q (o :: rest) a w :=
  BigFrame.wpList_want hw fun _ hK => by
    obtain ⟨v', w', hrun, r1, r2⟩ := run_append_strs (P := P) w base t o.type e i z bytes ht hi hz hsize hby hzs v v2 zs ns hown hv2 h63 hbytes hbase
    unfold Oper.wp
    simp [execOp, ho, resolve, invoke, builtin, hs, hx, hrun, Result.andThen]
    exact hK _ _ (h v' w' r1 r2)
end
theorem Try.infoStr : (Try.prog.info? 9).map (fun i => (i.zero, i.size, i.bytes)) = some (some (.string ⟨#[]⟩), 1, 16) := by kernel_rfl
theorem Try.infoU32 : (Try.prog.info? 27).map (fun i => (i.zero, i.size, i.bytes)) = some (some (.int .u32 0), 1, 4) := by kernel_rfl
theorem Try.infoDim : (Try.prog.info? 54).map (fun i => (i.zero, i.size, i.bytes)) = some (some (.agg #[.string ⟨#[]⟩, .int .i64 0]), 2, 24) := by kernel_rfl
/-- What a function that makes a list leaves. -/
def MadeS (B : Nat) (w : World) (l : List ByteArray) (e : Ending) (w' : World) : Prop := (∃ v, e = .returned v ∧ SOwn w' B v l) ∧ Below B w w'
end Go.Proofs.Ytdlebcjkokabjaa
