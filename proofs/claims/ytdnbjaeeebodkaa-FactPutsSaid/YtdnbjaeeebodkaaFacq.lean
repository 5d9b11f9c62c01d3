/- Layer 12: the program's Get: facts are read. -/
import Derived.Test.YtdnbjaeeebodkaaFacp
import Derived.Deep.RegionLaw
namespace Go.Proofs.Ytdnbjaeeebodkaa
set_option maxRecDepth 100000
open Go.RowKit
set_option linter.unusedVariables false
theorem append_own_step {P : Program} (w : World) {ops : Array Oper} {o : Oper} {a : Act} {K : Act → World → Prop} {Q : Exit → Act → World → Prop} {E : Prop} (hgd : o.guard = none) (s x : Operand) (t : TypeId)
    (ho : o.op = .call { callee := .builtin .append, args := #[s, x], argTypes := #[t, t] })
    (base : Nat) (e : TypeId) (i : TypeInfo) (z : Value) (size bytes : Nat) (ht : P.underlying t = some (.slice e)) (hi : P.info? e = some i) (hz : i.zero = some z) (hsize : i.size = size) (hby : i.bytes = bytes) (hzs : z.cells.size = size) (hsz : 0 < size)
    (v : Value) (n : Nat) (xs : List Value) (hs : a.eval s = v) (hown : w.ownsRow base e size v n xs)
    (ad : Addr) (m c : Nat) (news : List Value) (hx : a.eval x = .slice (some ad) m c) (hl : news.length = m * size) (hnews : ∀ j u, news[j]? = some u → w.cell? (ad.add j) = some u) (h1 : ∀ u ∈ news, u.oneCell' = true)
    (h63 : n + m ≤ maxLen) (hbytes : (n + m) * bytes ≤ 140737488355328) (hbase : base ≤ w.heap.size)
    (h : ∀ v' w', w'.ownsRow base e size v' (n + m) (xs ++ news) → w.grownBy w' v.ownBlock → K (a.put o.dst v') w') :
    if Region.wanted o (yielded ops a.tmps) = true then Oper.wp P o a w K Q else E := by
  have hw : Region.wanted o (yielded ops a.tmps) = true := by simp [Region.wanted, hgd]
  rw [if_pos hw]
  exact wp_append_own w s x t ho base e i z size bytes ht hi hz hsize hby hzs hsz v n xs hs hown ad m c news hx hl hnews h1 h63 hbytes hbase fun v' w' h2 h3 _ => h v' w' h2 h3
theorem own_apart {w w' : World} {B B' E E' sz sz' n n' : Nat} {v v' : Value} {xs xs' : List Value} (h : w.ownsRow B E sz v n xs) (h' : w.ownsRow B' E' sz' v' n' xs') (hE : E ≠ E') (hg : w.grownBy w' v'.ownBlock) : w'.ownsRow B E sz v n xs := by
  refine h.kept hg ?_
  rcases h.2 with ⟨rfl, -⟩ | ⟨g, cap, cur, rfl, -, h3, -⟩
  · exact .inl rfl
  · right
    rcases h'.2 with ⟨rfl, -⟩ | ⟨g', cap', cur', rfl, -, h3', -⟩
    · simp [Value.ownBlock]
    · intro e
      have e2 : g = g' := by simpa [Value.ownBlock] using e
      subst e2
      rw [h3] at h3'
      have := Option.some.inj h3'
      injection this with _ e3 _
      exact hE e3
theorem box_own {w w' : World} {K B E sz n : Nat} {D I M V u : Value} {xs : List Value} (h : Box w K D I M V) (ho : w.ownsRow B E sz u n xs) (hK : K < B) (hg : w.grownBy w' u.ownBlock) : Box w' K D I M V := by
  rcases ho.2 with ⟨rfl, -⟩ | ⟨g, cap, cur, rfl, h2, h3, -⟩
  · exact h.below ((Below.refl _ _).grown hg (Nat.le_refl _) (fun k hk => by simp [Value.ownBlock] at hk))
  · exact h.grown (N := g) hg (by omega)
/-- The three slices of a fact are of the call's own. -/
structure FOwn3 (w : World) (B : Nat) (C J N : Value) (f : Fa) : Prop where
  c : LOwn 3 w B C f.cs
  i : LOwn 2 w B J f.is
  n : NOwn w B N f.ns
theorem FOwn3.far {w w' : World} {B K : Nat} {C J N : Value} {f : Fa} (h : FOwn3 w B C J N f) (hg : w.grownBy w' (some K)) (hK : K < B) : FOwn3 w' B C J N f := ⟨own_far h.c hg hK, own_far h.i hg hK, own_far h.n hg hK⟩
theorem FOwn3.alloc {w : World} {B : Nat} {C J N : Value} {f : Fa} (h : FOwn3 w B C J N f) (o : Obj) : FOwn3 (w.alloc o) B C J N f := ⟨h.c.alloc o, h.i.alloc o, h.n.alloc o⟩
theorem FOwn3.low {w : World} {B B' : Nat} {C J N : Value} {f : Fa} (h : FOwn3 w B C J N f) (hb : B' ≤ B) : FOwn3 w B' C J N f := ⟨own_low h.c hb, own_low h.i hb, own_low h.n hb⟩
theorem FOwn3.fact {w : World} {B : Nat} {C J N : Value} {f : Fa} (h : FOwn3 w B C J N f) : Fact3 w C J N f := ⟨Ints.own h.c, Ints.own h.i, Fls.own h.n⟩
theorem FOwn3.beside {w w' : World} {B B' n : Nat} {C J N v : Value} {f : Fa} {xs : List Value} (h : FOwn3 w B C J N f) (ho : w.ownsRow B' 42 3 v n xs) (hg : w.grownBy w' v.ownBlock) : FOwn3 w' B C J N f :=
  ⟨own_apart h.c ho (by decide) hg, own_apart h.i ho (by decide) hg, own_apart h.n ho (by decide) hg⟩
def cellsF (Cs : List (Value × Value × Value)) : List Value := Cs.flatMap fun c => [c.1, c.2.1, c.2.2]
theorem cellsF_snoc (Cs : List (Value × Value × Value)) (x y z : Value) : cellsF Cs ++ [x, y, z] = cellsF (Cs ++ [(x, y, z)]) := by simp [cellsF]
theorem cellsF_get : ∀ (Cs : List (Value × Value × Value)) (i : Nat) (h : i < Cs.length), (cellsF Cs)[i * 3]? = some Cs[i].1 ∧ (cellsF Cs)[i * 3 + 1]? = some Cs[i].2.1 ∧ (cellsF Cs)[i * 3 + 2]? = some Cs[i].2.2
  | [], i, h => by simp at h
  | c :: Cs, 0, _ => by simp [cellsF]
  | c :: Cs, i + 1, h => by
    have ih := cellsF_get Cs i (by simpa using h)
    have e : cellsF (c :: Cs) = c.1 :: c.2.1 :: c.2.2 :: cellsF Cs := by simp [cellsF]
    have e1 : (i + 1) * 3 = i * 3 + 1 + 1 + 1 := by omega
    rw [e, e1]
    simp only [List.getElem?_cons_succ, List.getElem_cons_succ]
    exact ih
/-- A slice of facts of the call's own. -/
def FsOwn (w : World) (B : Nat) (v : Value) (l : List Fa) : Prop :=
  ∃ Cs : List (Value × Value × Value), w.ownsRow B 42 3 v Cs.length (cellsF Cs) ∧ Cs.length = l.length ∧ ∀ i (h : i < Cs.length) (h2 : i < l.length), FOwn3 w B Cs[i].1 Cs[i].2.1 Cs[i].2.2 l[i]
theorem FsOwn.far {w w' : World} {B K : Nat} {v : Value} {l : List Fa} (h : FsOwn w B v l) (hg : w.grownBy w' (some K)) (hK : K < B) : FsOwn w' B v l := by
  obtain ⟨Cs, h1, h2, h3⟩ := h
  exact ⟨Cs, own_far h1 hg hK, h2, fun i k1 k2 => (h3 i k1 k2).far hg hK⟩
theorem fsown0 (w : World) (B : Nat) : FsOwn w B (.slice none 0 0) [] := ⟨[], ⟨by simp [cellsF], .inl ⟨rfl, rfl⟩⟩, rfl, fun i h => by simp at h⟩
theorem FsOwn.any {w : World} {B : Nat} {v : Value} {l : List Fa} (h : FsOwn w B v l) : ∃ a n c, v = .slice a n c := by
  obtain ⟨Cs, h1, -⟩ := h
  exact own_any h1
theorem FsOwn.facts {w : World} {B : Nat} {v : Value} {l : List Fa} (h : FsOwn w B v l) : Facts w v l := by
  obtain ⟨Cs, ⟨hl, h⟩, h2, h3⟩ := h
  rcases h with ⟨rfl, h0⟩ | ⟨g, cap, cur, rfl, _, hb, hnc, hm, hs, ht⟩
  · have : l = [] := List.length_eq_zero_iff.1 (by omega)
    subst this
    exact ⟨none, 0, rfl, by simp, by simp, .inl rfl⟩
  · refine ⟨_, cap, by rw [h2], by omega, by unfold maxLen at hm; omega, .inr ⟨g, 0, rfl, (Array.getElem?_eq_some_iff.1 hb).1, fun i hi => ?_⟩⟩
    obtain ⟨c0, c1, c2⟩ := cellsF_get Cs i (by omega)
    rw [← ht, List.getElem?_take, if_pos (by omega)] at c0 c1 c2
    refine ⟨_, _, _, ⟨?_, ?_, ?_⟩, (h3 i (by omega) hi).fact⟩
    · rw [Nat.zero_add, cell_of_row _ _ (i * 3) _ _ (0, 0) hb]
      simpa using c0
    · rw [Nat.zero_add, cell_of_row _ _ (i * 3 + 1) _ _ (0, 0) hb]
      simpa using c1
    · rw [Nat.zero_add, cell_of_row _ _ (i * 3 + 2) _ _ (0, 0) hb]
      simpa using c2
theorem FsOwn.snoc {w w' : World} {B : Nat} {v v' : Value} {l : List Fa} {Cs : List (Value × Value × Value)} {C J X : Value} {f : Fa} (h : w.ownsRow B 42 3 v Cs.length (cellsF Cs)) (hl : Cs.length = l.length)
    (ha : ∀ i (h : i < Cs.length) (h2 : i < l.length), FOwn3 w B Cs[i].1 Cs[i].2.1 Cs[i].2.2 l[i]) (hn : FOwn3 w B C J X f)
    (hr : w'.ownsRow B 42 3 v' (Cs.length + 1) (cellsF Cs ++ [C, J, X])) (hg : w.grownBy w' v.ownBlock) : FsOwn w' B v' (l ++ [f]) := by
  rw [cellsF_snoc] at hr
  refine ⟨Cs ++ [(C, J, X)], by rw [List.length_append]; exact hr, by simp [hl], fun i h1 h2 => ?_⟩
  simp only [List.length_append, List.length_cons, List.length_nil] at h1 h2
  by_cases hi : i < Cs.length
  · have hi2 : i < l.length := by omega
    rw [List.getElem_append_left hi, List.getElem_append_left hi2]
    exact (ha i hi hi2).beside h hg
  · have e1 : i = Cs.length := by omega
    have e2 : i = l.length := by omega
    have g1 : (Cs ++ [(C, J, X)])[i]'(by simp; omega) = (C, J, X) := by subst e1; simp
    have g2 : (l ++ [f])[i]'(by simp; omega) = f := by
      rw [List.getElem_append_right (by omega)]
      simp [e2]
    rw [g1, g2]
    exact hn.beside h hg
/-- What stands in memory while a fact is read: the reader, the schema's cells, the fact's cells. -/
structure Gf (w r wr : World) (N : Nat) (b : List Int) (s : Nat × Nat) (D I M V C J X : Value) : Prop where
  i : InAt wr N b s.1 s.2
  x : Box wr w.heap.size D I M V
  k : FBox wr r.heap.size C J X
  g : r.grownBy wr (some N)
  sz : r.heap.size + 1 ≤ wr.heap.size
  lt : w.heap.size < r.heap.size
  nl : N < w.heap.size
theorem Gf.call {w r wr w1 : World} {N : Nat} {b : List Int} {s t : Nat × Nat} {D I M V C J X : Value} (h : Gf w r wr N b s D I M V C J X) (hi : InAt w1 N b t.1 t.2) (hg : wr.grownBy w1 (some N)) : Gf w r w1 N b t D I M V C J X := by
  have h1 := h.lt
  have h2 := h.nl
  exact ⟨hi, h.x.grown hg (by omega), h.k.grown hg (by omega), grown_then h.g hg, Nat.le_trans h.sz hg.size, h1, h2⟩
theorem Gf.stay {w r wr w1 : World} {N : Nat} {b : List Int} {s : Nat × Nat} {D I M V C J X C' J' X' : Value} (h : Gf w r wr N b s D I M V C J X) (hk : FBox w1 r.heap.size C' J' X') (hg : wr.grownBy w1 (some r.heap.size)) : Gf w r w1 N b s D I M V C' J' X' := by
  have h1 := h.lt
  have h2 := h.nl
  exact ⟨h.i.far h.k (by decide) (by omega) hg, h.x.grown hg (by omega), hk, grown_own h.g hg (Nat.le_refl _), Nat.le_trans h.sz hg.size, h1, h2⟩
theorem Gf.below {w r wr w1 : World} {N : Nat} {b : List Int} {s : Nat × Nat} {D I M V C J X : Value} (h : Gf w r wr N b s D I M V C J X) (hb : Below wr.heap.size wr w1) : Gf w r w1 N b s D I M V C J X :=
  ⟨h.i.below hb, h.x.below hb, h.k.below hb, grown_then h.g (grown_below hb _), Nat.le_trans h.sz hb.size, h.lt, h.nl⟩
theorem Gf.own {w r wr w1 : World} {N : Nat} {b : List Int} {s : Nat × Nat} {D I M V C J X u : Value} {E sz n : Nat} {xs : List Value} (h : Gf w r wr N b s D I M V C J X) (ho : wr.ownsRow (r.heap.size + 1) E sz u n xs) (hE : E ≠ 5) (hg : wr.grownBy w1 u.ownBlock) : Gf w r w1 N b s D I M V C J X := by
  have h1 := h.lt
  have h2 := h.nl
  have h3 := h.sz
  refine ⟨h.i.own ho hE (by omega) hg, box_own h.x ho (by omega) hg, ?_, grown_row h.g hg (fun g hg => by have := (ho.lt g hg).1; omega), Nat.le_trans h3 hg.size, h1, h2⟩
  rcases ho.2 with ⟨rfl, -⟩ | ⟨g, cap, cur, rfl, h4, h5, -⟩
  · exact h.k.below ((Below.refl _ _).grown hg (Nat.le_refl _) (fun k hk => by simp [Value.ownBlock] at hk))
  · exact h.k.grown (M := g) hg (by omega)
theorem gf_start {w r : World} {N : Nat} {b : List Int} {s : Nat × Nat} {D I M V : Value} (hi : InAt r N b s.1 s.2) (hx : Box r w.heap.size D I M V) (hN : N < w.heap.size) : Gf w r (r.alloc (FaO (.slice none 0 0) (.slice none 0 0) (.slice none 0 0))) N b s D I M V (.slice none 0 0) (.slice none 0 0) (.slice none 0 0) :=
  ⟨hi.below (below_one _ _), hx.below (below_one _ _), fbox_new _ _ _ _, grown_below (below_one _ _) _, by simp, hx.lt, hN⟩
/-- What the facts' reading stands at. -/
def GL (w wr : World) (N : Nat) (b : List Int) (q : List Fa × Nat × Nat) (D I M V lv : Value) : Prop :=
  FsOwn wr (w.heap.size + 1) lv q.1 ∧ InAt wr N b q.2.1 q.2.2 ∧ Box wr w.heap.size D I M V ∧ w.grownBy wr (some N)
theorem dim_at {w : World} {a : Option Addr} {n cap : Nat} {ds : List (ByteArray × Int)} {j : Nat} (h : Dims w (.slice a n cap) ds) (hj : j < ds.length) : ∃ b off, a = some ⟨b, off, none⟩ ∧ b < w.heap.size ∧ w.cell? ⟨b, off + j * 2, none⟩ = some (.string (dn ds j)) ∧ w.cell? ⟨b, off + j * 2 + 1, none⟩ = some (.int .i64 (dz ds j)) := by
  obtain ⟨a', cap', e', -, -, h3⟩ := h
  injection e' with e1 e2 e3
  subst e1
  rcases h3 with h3 | ⟨b, off, rfl, hlt, hc⟩
  · rw [h3] at hj; simp at hj
  · exact ⟨b, off, rfl, hlt, hc j hj⟩
set_option maxHeartbeats 16000000 in
theorem getFacts_any (w0 w : World) (D I M V : Value) (S : Sc) (N : Nat) (b : List Int) (s : Nat × Nat) (n : Nat) (h : Sch4 w0 D I M V S) (hw : Below w0.heap.size w0 w) (hN : w0.heap.size ≤ N) (hi0 : InAt w N b s.1 s.2) (hs : OkSt b s) (hb : Bt b) (hn : n ≤ 200)
    (hS : ∀ k, k < S.ds.length → 1 ≤ dz S.ds k ∧ dz S.ds k ≤ 4096) (hc : S.ds.length ≤ 6 ∧ S.is.length ≤ 3 ∧ S.ns.length ≤ 2) :
    Calls Try.prog 43 #[SchV D I M V, .pointer (some ⟨N, 0, none⟩), .int .u64 n] w fun r w' => (∃ v B, r = .returned v ∧ N < B ∧ FsOwn w' B v (listK (fun _ s => rdFa b (mostsS S) S.is.length S.ns.length s) s n).1) ∧ InAt w' N b (listK (fun _ s => rdFa b (mostsS S) S.is.length S.ns.length s) s n).2.1 (listK (fun _ s => rdFa b (mostsS S) S.is.length S.ns.length s) s n).2.2 ∧ w.grownBy w' (some N) := by
  obtain ⟨i0, hi, hz0, hz1, hz2⟩ := info_parts Try.infoIntf
  obtain ⟨j0, hj, hy0, hy1, hy2⟩ := info_parts Try.infoFact
  have hNl := hi0.lt
  have HKs := Lib.hid (fun k => listK_st (rd := fun _ s => rdFa b (mostsS S) S.is.length S.ns.length s) (P := OkSt b) (fun _ _ h => rdFa_st hb (mostsS S) S.is.length S.ns.length h) hs k)
  have HN := Lib.hid (fun k => show listK (fun _ s => rdFa b (mostsS S) S.is.length S.ns.length s) s (k + 1) = ((listK (fun _ s => rdFa b (mostsS S) S.is.length S.ns.length s) s k).1 ++ [(rdFa b (mostsS S) S.is.length S.ns.length (listK (fun _ s => rdFa b (mostsS S) S.is.length S.ns.length s) s k).2).1], (rdFa b (mostsS S) S.is.length S.ns.length (listK (fun _ s => rdFa b (mostsS S) S.is.length S.ns.length s) s k).2).2) from rfl)
  have HD := Lib.hid h.d
  have HB0 := Lib.hid (below_one w (SchO D I M V))
  have HX0 := Lib.hid (box_new w D I M V)
  have HI0 := Lib.hid (hi0.below HB0.out)
  have HW := Lib.hid (fun wr (hg : w.grownBy wr (some N)) => below_grown hw hg hN)
  have HS := Lib.hid hS
  have HBt := Lib.hid hb
  obtain ⟨⟨a, c, rfl⟩, ⟨a2, c2, rfl⟩, ⟨a3, c3, rfl⟩, a4, c4, rfl⟩ := h.slices
  have HML := Lib.hid (mosts_len S)
  have HMG := Lib.hid (fun k (hk : k < S.ds.length) => mosts_get hk)
  clear h hw hN hi0 hs hS hb
  go_enter Try.func43, Try.ntmps43
  go_wp2_with fail
  generalize hWx : w.alloc (SchO (.slice a S.ds.length c) (.slice a2 S.is.length c2) (.slice a3 S.ns.length c3) (.slice a4 S.vs.length c4)) = W at *
  have HG0 := Lib.hid (show GL w W N b (listK (fun _ s => rdFa b (mostsS S) S.is.length S.ns.length s) s 0) (.slice a S.ds.length c) (.slice a2 S.is.length c2) (.slice a3 S.ns.length c3) (.slice a4 S.vs.length c4) (.slice none 0 0) from ⟨fsown0 _ _, HI0.out, HX0.out, grown_below HB0.out _⟩)
  clear hWx
  go_loopw [7, 12] (fun lv i wr => ∃ k : Nat, k ≤ n ∧ i = .int .u64 k ∧ Hid (GL w wr N b (listK (fun _ s => rdFa b (mostsS S) S.is.length S.ns.length s) s k) (.slice a S.ds.length c) (.slice a2 S.is.length c2) (.slice a3 S.ns.length c3) (.slice a4 S.vs.length c4) lv)) (fun _ i _ => n - (intOf i).toNat)
  case atStart => exact ⟨0, Nat.zero_le _, rfl, HG0⟩
  case round =>
    obtain ⟨k, hk, rfl, HG⟩ := hrel
    generalize wr = R0 at *
    by_cases hlk : k < n
    · have hlk' : (k : Int) < (n : Int) := by omega
      obtain ⟨hF, hI, hX, hG⟩ := HG.out
      obtain ⟨Cs, hC1, hC2, hC3⟩ := hF
      obtain ⟨pa, pl, pc, rfl⟩ := own_any hC1
      have HC1 := Lib.hid (And.intro hC1 (And.intro hC2 hC3))
      have HGG := Lib.hid hG
      have HGs := Lib.hid (gf_start hI hX hNl)
      have HNk := Lib.hid (HN.out k)
      have HLk := Lib.hid (HKs.out k)
      have hOk := (HKs.out k).1
      clear hC1 hC2 hC3 hI hX hG HG
      obtain ⟨q, hq⟩ : ∃ q, (listK (fun _ s => rdFa b (mostsS S) S.is.length S.ns.length s) s k).1 = q := ⟨_, rfl⟩
      obtain ⟨t, ht⟩ : ∃ t, (listK (fun _ s => rdFa b (mostsS S) S.is.length S.ns.length s) s k).2 = t := ⟨_, rfl⟩
      rw [hq] at HC1 HNk HLk
      rw [ht] at HNk HLk HGs hOk
      clear hq ht
      have i1 : IntKind.u64.wrap ((k : Int) + 1) = (k : Int) + 1 := by rw [IntKind.wrap_u64]; omega
      have HCk := Lib.hid (fun j => listK_st (rd := fun k s => stU b ((mostsS S).getD k 0) s) (P := OkSt b) (fun _ _ h => stU_st HBt.out _ h) hOk j)
      have HCn := Lib.hid (fun j => show listK (fun k s => stU b ((mostsS S).getD k 0) s) t (j + 1) = ((listK (fun k s => stU b ((mostsS S).getD k 0) s) t j).1 ++ [(stU b ((mostsS S).getD j 0) (listK (fun k s => stU b ((mostsS S).getD k 0) s) t j).2).1], (stU b ((mostsS S).getD j 0) (listK (fun k s => stU b ((mostsS S).getD k 0) s) t j).2).2) from rfl)
      have HCv := Lib.hid (fun j (hj : j < S.ds.length) => stU_val (most := (mostsS S).getD j 0) HBt.out (by rw [HMG.out j hj]; have := HS.out j hj; omega) (listK (fun k s => stU b ((mostsS S).getD k 0) s) t j).2)
      have HRC := Lib.hid (show listK (fun k s => stU b ((mostsS S).getD k 0) s) t S.ds.length = rdC b (mostsS S) t by unfold rdC; rw [HML.out])
      have hR1 := HGs.out.lt
      obtain ⟨x0, x1, x2, x3⟩ := HGs.out.x.reads
      go_wp2_with fail
      clear x0 x1 x2 x3
      go_loopw [17] (fun i wx => ∃ (j : Nat) (C : Value), j ≤ S.ds.length ∧ i = .int .i64 j ∧ Hid (LOwn 3 wx (R0.heap.size + 1) C (listK (fun k s => stU b ((mostsS S).getD k 0) s) t j).1 ∧ Gf w R0 wx N b (listK (fun k s => stU b ((mostsS S).getD k 0) s) t j).2 (.slice a S.ds.length c) (.slice a2 S.is.length c2) (.slice a3 S.ns.length c3) (.slice a4 S.vs.length c4) C (.slice none 0 0) (.slice none 0 0))) (fun i _ => S.ds.length - (intOf i).toNat)
      case atStart => exact ⟨0, _, Nat.zero_le _, rfl, Lib.hid ⟨lown0 _ _ _, HGs.out⟩⟩
      case round =>
        obtain ⟨j, C, hjj, rfl, HQ⟩ := hrel
        obtain ⟨ca, cl, cc, rfl⟩ := own_any HQ.out.1
        by_cases hlj : j < S.ds.length
        · have hlj' : (j : Int) < (S.ds.length : Int) := by omega
          obtain ⟨db, doff, rfl, hdlt, d0, d1⟩ := dim_at HD.out hlj
          have hbw := HW.out _ (grown_then HGG.out HQ.out.2.g)
          have d0 := cell_hold hbw d0
          have d1 := cell_hold hbw d1
          have hsz := HS.out j hlj
          have hvz := HCv.out j hlj
          have HCnj := Lib.hid (HCn.out j)
          have HCkj := Lib.hid (HCk.out j)
          rw [HMG.out j hlj] at hvz HCnj
          have HUj := Lib.hid (fun wy (h : InAt wy N b (listK (fun k s => stU b ((mostsS S).getD k 0) s) t j).2.1 (listK (fun k s => stU b ((mostsS S).getD k 0) s) t j).2.2) => inU_st wy N b _ (dz S.ds j - 1) h (HCk.out j).1.2)
          generalize dn S.ds j = dnm at *
          generalize dz S.ds j = Z at *
          generalize (stU b (Z - 1) (listK (fun k s => stU b ((mostsS S).getD k 0) s) t j).2).1 = z at *
          generalize (stU b (Z - 1) (listK (fun k s => stU b ((mostsS S).getD k 0) s) t j).2).2 = t2 at *
          obtain ⟨cq, hcq⟩ : ∃ q, (listK (fun k s => stU b ((mostsS S).getD k 0) s) t j).1 = q := ⟨_, rfl⟩
          obtain ⟨t1, ht1⟩ : ∃ t1, (listK (fun k s => stU b ((mostsS S).getD k 0) s) t j).2 = t1 := ⟨_, rfl⟩
          rw [hcq] at HCnj HCkj HQ
          rw [ht1] at HUj HQ
          clear hcq ht1 hbw
          have iz1 : IntKind.i64.wrap (Z - 1) = Z - 1 := IntWalk.i64_in _ (by omega)
          have iz1' : wrap64 (Z - 1) = Z - 1 := wrap64_in (by omega) (by omega)
          have iz2 : IntKind.u64.wrap (Z - 1) = Z - 1 := by rw [IntKind.wrap_u64]; omega
          have iz3 : IntKind.i64.wrap z = z := IntWalk.i64_in _ (by omega)
          have iz3' : wrap64 z = z := wrap64_in (by omega) (by omega)
          clear hvz hsz
          go_upto_region 8 with fail
          have hbd := below_one wr (.cells #[.string dnm, .int .i64 Z] 55)
          have HDm := Lib.hid (show Dim2 (wr.alloc (.cells #[.string dnm, .int .i64 Z] 55)) wr.heap.size dnm Z from heap_alloc_new wr _)
          have HQ2 := Lib.hid (HQ.out.2.below hbd)
          have HO2 := Lib.hid (HQ.out.1.alloc (.cells #[.string dnm, .int .i64 Z] 55))
          generalize hWd : wr.alloc (.cells #[.string dnm, .int .i64 Z] 55) = Wd at *
          clear hbd hWd d0 d1
          have HQd := Lib.hid (HQ2.out.below (Below.refl _ _).drew)
          have HOd := Lib.hid (show LOwn 3 Wd.drew (R0.heap.size + 1) (.slice ca cl cc) cq from own_far HO2.out (grown_below (Below.refl _ _).drew (some R0.heap.size)) (by omega))
          have HUd := Lib.hid (HUj.out _ HQd.out.i)
          have k0 := HQd.out.k.reads.1
          have hdd := HDm.out.low (Below.refl Wd.heap.size Wd).drew
          have d1 := hdd.reads.2.1
          clear hdd
          go_region_law (first
            | (refine append_own_step _ (by rfl) _ _ _ (by rfl) (R0.heap.size + 1) 3 i0 (.int .i64 0) 1 8 Try.underlying38 hi hz0 hz1 hz2 zcells_int (by decide) _ _ (cq.map (Value.int .i64)) (by rfl) (HO3.out.alloc _) ⟨w3.heap.size, 0, none⟩ 1 1 [.int .i64 z] (by rfl) rfl (one_cells w3 (.int .i64 z) 3) (by intro u hu; simp at hu; rcases hu with rfl; rfl) (by have := HCkj.out.2; unfold maxLen; omega) (by have := HCkj.out.2; omega) (by have := HS3.out.sz; simp; omega) ?_; intro v' w4 hown hgrow; have hown := lown_snoc hown; have HZ := Lib.hid (And.intro hown ((HS3.out.below (below_one _ _)).own (HO3.out.alloc _) (by decide) hgrow)); obtain ⟨m0, m1, m2⟩ := HZ.out.2.k.reads; obtain ⟨f0, f1, f2⟩ := HZ.out.2.k.free; obtain ⟨pv', lv', cv', rfl⟩ := own_any hown; clear hown hgrow)
            | (go_simp; go_at_call 41; refine (HUd.out).mono ?_; rintro rr w3 ⟨rfl, hr, hg⟩; have HS3 := Lib.hid (HQd.out.call hr hg); have HO3 := Lib.hid (own_far HOd.out hg (by omega)); have k0 := HS3.out.k.reads.1; have k4 := cell_hold (below_one w3 (.cells #[.int .i64 z] 3)) k0; clear hr hg))
          all_goals
            have HO5 := Lib.hid (own_far HZ.out.1 (grown_set w4 R0.heap.size 0 (.slice pv' lv' cv')) (by omega))
            have HS5 := Lib.hid (HZ.out.2.stay (HZ.out.2.k.set0 (u := .slice pv' lv' cv')) (grown_set w4 R0.heap.size 0 (.slice pv' lv' cv')))
            clear m0 m1 m2 f0 f1 f2 HZ
            go_wp2_with fail
            go_roundw
            case rel => exact ⟨j + 1, _, by omega, by go_num, Lib.hid ⟨by rw [HCnj.out]; exact HO5.out, by rw [HCnj.out]; exact HS5.out⟩⟩
            case measure => simp [intOf]; omega
        · have hje : j = S.ds.length := by omega
          subst hje
          have hQ := HQ.out
          rw [HRC.out] at hQ
          have HQ := Lib.hid hQ
          clear hQ HCk HCn HCv HRC
          have hst1 := rdC_st HBt.out (mostsS S) hOk
          have HI2 := Lib.hid (fun wy (h : InAt wy N b (rdC b (mostsS S) t).2.1 (rdC b (mostsS S) t).2.2) => readI2_any wy N b (rdC b (mostsS S) t).2 S.is.length (by omega) h hst1.1)
          have hst2 := rdI2_st S.is.length hst1.1
          have HN2 := Lib.hid (fun wy (h : InAt wy N b (rdI2 b S.is.length (rdC b (mostsS S) t).2).2.1 (rdI2 b S.is.length (rdC b (mostsS S) t).2).2.2) => readN2_any wy N b (rdI2 b S.is.length (rdC b (mostsS S) t).2).2 S.ns.length (by omega) h hst2.1)
          have HFa := Lib.hid (show rdFa b (mostsS S) S.is.length S.ns.length t = (⟨(rdC b (mostsS S) t).1, (rdI2 b S.is.length (rdC b (mostsS S) t).2).1, (rdN2 b S.ns.length (rdI2 b S.is.length (rdC b (mostsS S) t).2).2).1⟩, (rdN2 b S.ns.length (rdI2 b S.is.length (rdC b (mostsS S) t).2).2).2) from rfl)
          generalize (rdN2 b S.ns.length (rdI2 b S.is.length (rdC b (mostsS S) t).2).2).2 = t3 at *
          generalize (rdN2 b S.ns.length (rdI2 b S.is.length (rdC b (mostsS S) t).2).2).1 = r3 at *
          generalize (rdI2 b S.is.length (rdC b (mostsS S) t).2).2 = t2 at *
          generalize (rdI2 b S.is.length (rdC b (mostsS S) t).2).1 = r2 at *
          generalize (rdC b (mostsS S) t).2 = t1 at *
          generalize (rdC b (mostsS S) t).1 = r1 at *
          clear hst1 hst2
          obtain ⟨x0, x1, x2, x3⟩ := HQ.out.2.x.reads
          go_wp2_with fail
          refine (HI2.out _ HQ.out.2.i).mono ?_; rintro rr w2 ⟨⟨u2, rfl, ho⟩, hr, hg⟩
          have hcc := HQ.out.2.call hr hg
          have OC2 := Lib.hid (own_far (own_far HQ.out.1 hg (by omega)) (grown_set w2 R0.heap.size 1 u2) (by omega))
          have OI2 := Lib.hid (own_far (own_low ho HQ.out.2.sz) (grown_set w2 R0.heap.size 1 u2) (by omega))
          have HG2 := Lib.hid (hcc.stay (hcc.k.set1 (u := u2)) (grown_set w2 R0.heap.size 1 u2))
          clear x0 x1 x2 x3
          obtain ⟨k0, k1, k2⟩ := hcc.k.reads
          obtain ⟨f0, f1, f2⟩ := hcc.k.free
          obtain ⟨ia, il, ic, rfl⟩ := own_any ho
          clear ho hr hg hcc
          obtain ⟨x0, x1, x2, x3⟩ := HG2.out.x.reads
          generalize hW2 : w2.setCell ⟨R0.heap.size, 1, none⟩ (.slice ia il ic) = W2 at OC2 OI2 HG2 x0 x1 x2 x3
          go_wp2_with fail
          refine (HN2.out _ HG2.out.i).mono ?_; rintro rr w3 ⟨⟨u3, rfl, ho⟩, hr, hg⟩
          clear hW2 k0 k1 k2 f0 f1 f2
          have hcc := HG2.out.call hr hg
          have OC3 := Lib.hid (own_far (own_far OC2.out hg (by omega)) (grown_set w3 R0.heap.size 2 u3) (by omega))
          have OI3 := Lib.hid (own_far (own_far OI2.out hg (by omega)) (grown_set w3 R0.heap.size 2 u3) (by omega))
          have ON3 := Lib.hid (own_far (own_low ho HG2.out.sz) (grown_set w3 R0.heap.size 2 u3) (by omega))
          have HG3 := Lib.hid (hcc.stay (hcc.k.set2 (u := u3)) (grown_set w3 R0.heap.size 2 u3))
          obtain ⟨k0, k1, k2⟩ := hcc.k.reads
          obtain ⟨f0, f1, f2⟩ := hcc.k.free
          obtain ⟨na, nl, nc, rfl⟩ := own_any ho
          clear ho hr hg hcc x0 x1 x2 x3
          obtain ⟨y0, y1, y2⟩ := HG3.out.k.reads
          generalize hW3 : w3.setCell ⟨R0.heap.size, 2, none⟩ (.slice na nl nc) = W3 at OC3 OI3 ON3 HG3 y0 y1 y2
          have HR3 := Lib.hid (own_far HC1.out.1 HG3.out.g (by omega))
          have HA3 := Lib.hid (fun i h1 h2 => (HC1.out.2.2 i h1 h2).far HG3.out.g (by omega))
          have HF3 := Lib.hid (show FOwn3 W3 (w.heap.size + 1) (.slice ca cl cc) (.slice ia il ic) (.slice na nl nc) ⟨r1, r2, r3⟩ from (FOwn3.mk OC3.out OI3.out ON3.out).low (by have := HG3.out.lt; omega))
          go_wp2_with (at_builtin; refine wpList_append_own _ rfl _ _ 27 rfl (w.heap.size + 1) 42 j0 (.agg #[.slice none 0 0, .slice none 0 0, .slice none 0 0]) 3 72 Try.underlying27 hj hy0 hy1 hy2 zcells_fact (by decide) _ _ (cellsF Cs) rfl (HR3.out.alloc _) ⟨W3.heap.size, 0, none⟩ 1 1 [.slice ca cl cc, .slice ia il ic, .slice na nl nc] rfl rfl (three_cells W3 _ _ _ 42) (by intro u hu; simp at hu; rcases hu with rfl | rfl | rfl <;> rfl) (by have := HC1.out.2.1; have := HLk.out.2; unfold maxLen; omega) (by have := HC1.out.2.1; have := HLk.out.2; omega) (by have := HG3.out.lt; have := HG3.out.sz; simp; omega) ?_; intro v' w9 hown hgrow hiff; clear hiff; have HZ := Lib.hid (And.intro (FsOwn.snoc (HR3.out.alloc _) HC1.out.2.1 (fun i h1 h2 => (HA3.out i h1 h2).alloc _) (HF3.out.alloc _) hown hgrow) (And.intro ((HG3.out.i.below (below_one _ _)).own (HR3.out.alloc _) (by decide) (by omega) hgrow) (And.intro (box_own (HG3.out.x.below (below_one _ _)) (HR3.out.alloc _) (by omega) hgrow) (grown_row (grown_then HGG.out (grown_then HG3.out.g (grown_below (below_one _ _) _))) hgrow (fun g hg => by have := (HR3.out.lt g hg).1; omega))))); obtain ⟨pv', lv', cv', rfl⟩ := own_any hown; clear hown hgrow)
          clear hW3 k0 k1 k2 f0 f1 f2 y0 y1 y2
          go_roundw
          case rel => exact ⟨k + 1, by omega, by go_num, Lib.hid (by rw [HNk.out, HFa.out]; exact HZ.out)⟩
          case measure => simp [intOf]; omega
    · have hkn : k = n := by omega
      subst hkn
      obtain ⟨hF, hI, hX, hG⟩ := HG.out
      have HF := Lib.hid hF
      have HI := Lib.hid (And.intro hI hG)
      obtain ⟨pa, pl, pc, rfl⟩ := hF.any
      clear hF hI hX hG HG
      go_wp2_with fail
      go_ret
      exact ⟨⟨_, _, rfl, by omega, HF.out⟩, HI.out⟩
end Go.Proofs.Ytdnbjaeeebodkaa
