/- Layer 12: what is put is got. -/
import Derived.Test.YtdnbjaeeebodkaaGreatFaci
import Derived.Test.YtdnbjaeeebodkaaGreatScht
import Derived.Deep.RegionLaw
import Derived.Test.YtdnbjaeeebodkaaGreatFacm
namespace Go.Proofs.YtdnbjaeeebodkaaGreat
set_option maxRecDepth 100000
open Go.RowKit
set_option linter.unusedVariables false
theorem Tryz.infoI64f : (Tryz.prog.info? 2).map (fun i => (i.zero, i.size, i.bytes)) = some (some (.int .i64 0), 1, 8) := by kernel_rfl
theorem Tryz.infoIntf : (Tryz.prog.info? 3).map (fun i => (i.zero, i.size, i.bytes)) = some (some (.int .i64 0), 1, 8) := by kernel_rfl
theorem Tryz.infoF64f : (Tryz.prog.info? 65).map (fun i => (i.zero, i.size, i.bytes)) = some (some (.float .f64 0), 1, 8) := by kernel_rfl
theorem Tryz.infoFact : (Tryz.prog.info? 48).map (fun i => (i.zero, i.size, i.bytes)) = some (some (.agg #[.slice none 0 0, .slice none 0 0, .slice none 0 0]), 3, 72) := by kernel_rfl
theorem zcells_int : (Value.int .i64 0).cells.size = 1 := by simp [Value.cells]
theorem zcells_flo : (Value.float .f64 0).cells.size = 1 := by simp [Value.cells]
theorem zcells_fact : (Value.agg #[.slice none 0 0, .slice none 0 0, .slice none 0 0]).cells.size = 3 := by simp [Value.cells]
theorem one_cells (w : World) (x : Value) (T : TypeId) : ∀ j u, [x][j]? = some u → (w.alloc (.cells #[x] T)).cell? ((⟨w.heap.size, 0, none⟩ : Addr).add j) = some u := by
  intro j u hj
  have hl := (List.getElem?_eq_some_iff.1 hj).1
  have hl2 : j < 1 := hl
  obtain rfl : j = 0 := by omega
  simpa [Addr.add, go_sem] using hj
theorem three_cells (w : World) (x y z : Value) (T : TypeId) : ∀ j u, [x, y, z][j]? = some u → (w.alloc (.cells #[x, y, z] T)).cell? ((⟨w.heap.size, 0, none⟩ : Addr).add j) = some u := by
  intro j u hj
  have hl := (List.getElem?_eq_some_iff.1 hj).1
  have hl2 : j < 3 := hl
  rcases (by omega : j = 0 ∨ j = 1 ∨ j = 2) with rfl | rfl | rfl
  · simpa [Addr.add, go_sem] using hj
  · simpa [Addr.add, go_sem] using hj
  · simpa [Addr.add, go_sem] using hj
/-- Rows of the call's own: integers (a type), floats. -/
abbrev LOwn (E : TypeId) (w : World) (B : Nat) (v : Value) (l : List Int) : Prop := w.ownsRow B E 1 v l.length (l.map (Value.int .i64))
abbrev NOwn (w : World) (B : Nat) (v : Value) (l : List Nat) : Prop := w.ownsRow B 65 1 v l.length (l.map (Value.float .f64))
theorem lown0 (E : TypeId) (w : World) (B : Nat) : LOwn E w B (.slice none 0 0) [] := ⟨by simp, .inl ⟨rfl, rfl⟩⟩
theorem nown0 (w : World) (B : Nat) : NOwn w B (.slice none 0 0) [] := ⟨by simp, .inl ⟨rfl, rfl⟩⟩
theorem lown_snoc {E : TypeId} {w : World} {B : Nat} {v : Value} {q : List Int} {x : Int} (h : w.ownsRow B E 1 v (q.length + 1) (q.map (Value.int .i64) ++ [.int .i64 x])) : LOwn E w B v (q ++ [x]) := by
  unfold LOwn
  rw [List.length_append, List.map_append]
  exact h
theorem nown_snoc {w : World} {B : Nat} {v : Value} {q : List Nat} {x : Nat} (h : w.ownsRow B 65 1 v (q.length + 1) (q.map (Value.float .f64) ++ [.float .f64 x])) : NOwn w B v (q ++ [x]) := by
  unfold NOwn
  rw [List.length_append, List.map_append]
  exact h
theorem Fls.own {w : World} {B : Nat} {v : Value} {l : List Nat} (h : NOwn w B v l) : Fls w v l := by
  obtain ⟨hl, h⟩ := h
  rcases h with ⟨rfl, h0⟩ | ⟨g, cap, cur, rfl, _, hb, hnc, hm, hs, ht⟩
  · have : l = [] := List.length_eq_zero_iff.1 h0
    subst this
    exact ⟨none, 0, rfl, by simp, .inl rfl⟩
  · refine ⟨_, cap, rfl, by omega, .inr ⟨g, 0, rfl, (Array.getElem?_eq_some_iff.1 hb).1, fun i hi => ?_⟩⟩
    have e : (l.map (Value.float .f64))[i]? = some (.float .f64 (l.getD i 0)) := by simp [List.getD, hi]
    rw [← ht, List.getElem?_take, if_pos (by omega)] at e
    rw [Nat.zero_add, cell_of_row _ _ i _ _ (0, 0) hb]
    simpa using e
theorem inI_st (w : World) (N : Nat) (b : List Int) (s : Nat × Nat) (h : InAt w N b s.1 s.2) (h9 : s.2 < 9) :
    Calls Tryz.prog 51 #[.pointer (some ⟨N, 0, none⟩)] w fun r w' => r = .returned (.int .i64 (stI b s).1) ∧ InAt w' N b (stI b s).2.1 (stI b s).2.2 ∧ w.grownBy w' (some N) := by
  obtain ⟨p, e⟩ := s
  simp only at h h9
  unfold stI
  by_cases he : e = 0
  · subst he
    rw [if_pos rfl]
    refine (inI_any w N b p h).mono ?_
    rintro r w' ⟨⟨v, rfl, rfl⟩, h2, h3⟩
    exact ⟨rfl, h2, h3⟩
  · rw [if_neg he]
    refine (inI_shut w _ e (h.shut he (by omega))).mono ?_
    rintro r w' ⟨rfl, hb⟩
    exact ⟨rfl, h.below hb, grown_below hb _⟩
theorem inF_st (w : World) (N : Nat) (b : List Int) (s : Nat × Nat) (h : InAt w N b s.1 s.2) (h9 : s.2 < 9) :
    Calls Tryz.prog 53 #[.pointer (some ⟨N, 0, none⟩)] w fun r w' => r = .returned (.float .f64 (stF b s).1) ∧ InAt w' N b (stF b s).2.1 (stF b s).2.2 ∧ w.grownBy w' (some N) := by
  obtain ⟨p, e⟩ := s
  simp only at h h9
  unfold stF
  by_cases he : e = 0
  · subst he
    rw [if_pos rfl]
    refine (inF_any w N b p h).mono ?_
    rintro r w' ⟨⟨v, rfl, rfl⟩, h2, h3⟩
    simp only
    unfold fN at *
    by_cases q : (getF (b.drop p)).2 = 0
    · rw [if_pos q] at h2 ⊢
      simp only [if_true] at h2 ⊢
      rw [if_pos q, if_pos q, q]
      exact ⟨rfl, h2, h3⟩
    · rw [if_neg q] at h2 ⊢
      simp only [if_neg q] at h2 ⊢
      exact ⟨True.intro, h2, h3⟩
  · rw [if_neg he]
    refine (inF_shut w _ e (h.shut he (by omega))).mono ?_
    rintro r w' ⟨rfl, hb⟩
    exact ⟨rfl, h.below hb, grown_below hb _⟩
set_option maxHeartbeats 4000000 in
theorem readI2_any (w : World) (N : Nat) (b : List Int) (s : Nat × Nat) (n : Nat) (hn : n ≤ 20) (h : InAt w N b s.1 s.2) (hs : OkSt b s) :
    Calls Tryz.prog 50 #[.int .i64 n, .func (.func 51) #[.pointer (some ⟨N, 0, none⟩)] #[]] w fun r w' => (∃ v, r = .returned v ∧ LOwn 2 w' w.heap.size v (rdI2 b n s).1) ∧ InAt w' N b (rdI2 b n s).2.1 (rdI2 b n s).2.2 ∧ w.grownBy w' (some N) := by
  obtain ⟨i0, hi, hz0, hz1, hz2⟩ := info_parts Tryz.infoI64f
  have hNl := h.lt
  unfold rdI2
  have HKs := Lib.hid (fun k => listK_st (rd := fun _ s => stI b s) (P := OkSt b) (fun _ _ h => stI_st h) hs k)
  have HR := Lib.hid (fun w1 k (h : InAt w1 N b (listK (fun _ s => stI b s) s k).2.1 (listK (fun _ s => stI b s) s k).2.2) => inI_st w1 N b (listK (fun _ s => stI b s) s k).2 h (listK_st (rd := fun _ s => stI b s) (P := OkSt b) (fun _ _ h => stI_st h) hs k).1.2)
  have HN := Lib.hid (fun k => show listK (fun _ s => stI b s) s (k + 1) = ((listK (fun _ s => stI b s) s k).1 ++ [(stI b (listK (fun _ s => stI b s) s k).2).1], (stI b (listK (fun _ s => stI b s) s k).2).2) from rfl)
  have HI := Lib.hid h
  clear h hs
  go_enter Tryz.func50, Tryz.ntmps50
  go_wp2_with fail
  go_loopw [5, 7] (fun lv i wr => ∃ k : Nat, k ≤ n ∧ i = .int .i64 k ∧ Hid (LOwn 2 wr w.heap.size lv (listK (fun _ s => stI b s) s k).1 ∧ InAt wr N b (listK (fun _ s => stI b s) s k).2.1 (listK (fun _ s => stI b s) s k).2.2 ∧ w.grownBy wr (some N))) (fun _ i _ => n - (intOf i).toNat)
  case atStart => exact ⟨0, Nat.zero_le _, rfl, Lib.hid ⟨lown0 _ _ _, HI.out, grown_below (Below.refl _ _) _⟩⟩
  case round =>
    obtain ⟨k, hk, rfl, HS⟩ := hrel
    by_cases hlk : k < n
    · have hlk' : (k : Int) < (n : Int) := by omega
      have HRk := Lib.hid (HR.out wr k HS.out.2.1)
      have HNk := Lib.hid (HN.out k)
      have HLk := Lib.hid (HKs.out k).2
      generalize (stI b (listK (fun _ s => stI b s) s k).2).1 = x at *
      generalize (stI b (listK (fun _ s => stI b s) s k).2).2 = s2 at *
      obtain ⟨q, hq⟩ : ∃ q, (listK (fun _ s => stI b s) s k).1 = q := ⟨_, rfl⟩
      rw [hq] at HNk HLk HS
      obtain ⟨pa, pl, pc, rfl⟩ := own_any HS.out.1
      clear hq
      go_wp2_with fail
      refine (HRk.out).mono ?_; rintro r w2 ⟨rfl, hi2, hg2⟩
      have HO2 := Lib.hid (own_far HS.out.1 hg2 hNl)
      have HI2 := Lib.hid (And.intro hi2 (grown_then HS.out.2.2 hg2))
      have hsz := HI2.out.2.size
      clear hi2 hg2
      go_wp2_with (at_builtin; refine wpList_append_own _ rfl _ _ 45 rfl w.heap.size 2 i0 (.int .i64 0) 1 8 Tryz.underlying45 hi hz0 hz1 hz2 zcells_int (by decide) _ _ (q.map (Value.int .i64)) rfl (HO2.out.alloc _) ⟨w2.heap.size, 0, none⟩ 1 1 [Value.int .i64 x] rfl rfl (one_cells w2 (Value.int .i64 x) 2) (by intro u hu; simp at hu; rcases hu with rfl; rfl) (by have := HLk.out; unfold maxLen; omega) (by have := HLk.out; omega) (by simp; omega) ?_; intro v' w3 hown hgrow hiff; clear hiff; have hown := lown_snoc hown; have HQ := Lib.hid (And.intro hown (And.intro ((HI2.out.1.below (below_one _ _)).own (HO2.out.alloc _) (by decide) hNl hgrow) (grown_row (grown_then HI2.out.2 (grown_below (below_one _ _) _)) hgrow (fun g hg => (HO2.out.lt g hg).1)))); obtain ⟨pv', lv', cv', rfl⟩ := own_any hown; clear hown hgrow)
      go_roundw
      case rel => exact ⟨k + 1, by omega, by go_num, Lib.hid ⟨by rw [HNk.out]; exact HQ.out.1, by rw [HNk.out]; exact HQ.out.2.1, HQ.out.2.2⟩⟩
      case measure => simp [intOf]; omega
    · have hkn : k = n := by omega
      subst hkn
      obtain ⟨pa, pl, pc, rfl⟩ := own_any HS.out.1
      go_wp2_with fail
      go_ret
      exact ⟨⟨_, rfl, HS.out.1⟩, HS.out.2⟩
set_option maxHeartbeats 4000000 in
theorem readN2_any (w : World) (N : Nat) (b : List Int) (s : Nat × Nat) (n : Nat) (hn : n ≤ 20) (h : InAt w N b s.1 s.2) (hs : OkSt b s) :
    Calls Tryz.prog 52 #[.int .i64 n, .func (.func 53) #[.pointer (some ⟨N, 0, none⟩)] #[]] w fun r w' => (∃ v, r = .returned v ∧ NOwn w' w.heap.size v (rdN2 b n s).1) ∧ InAt w' N b (rdN2 b n s).2.1 (rdN2 b n s).2.2 ∧ w.grownBy w' (some N) := by
  obtain ⟨i0, hi, hz0, hz1, hz2⟩ := info_parts Tryz.infoF64f
  have hNl := h.lt
  unfold rdN2
  have HKs := Lib.hid (fun k => listK_st (rd := fun _ s => stF b s) (P := OkSt b) (fun _ _ h => stF_st h) hs k)
  have HR := Lib.hid (fun w1 k (h : InAt w1 N b (listK (fun _ s => stF b s) s k).2.1 (listK (fun _ s => stF b s) s k).2.2) => inF_st w1 N b (listK (fun _ s => stF b s) s k).2 h (listK_st (rd := fun _ s => stF b s) (P := OkSt b) (fun _ _ h => stF_st h) hs k).1.2)
  have HN := Lib.hid (fun k => show listK (fun _ s => stF b s) s (k + 1) = ((listK (fun _ s => stF b s) s k).1 ++ [(stF b (listK (fun _ s => stF b s) s k).2).1], (stF b (listK (fun _ s => stF b s) s k).2).2) from rfl)
  have HI := Lib.hid h
  clear h hs
  go_enter Tryz.func52, Tryz.ntmps52
  go_wp2_with fail
  go_loopw [5, 7] (fun lv i wr => ∃ k : Nat, k ≤ n ∧ i = .int .i64 k ∧ Hid (NOwn wr w.heap.size lv (listK (fun _ s => stF b s) s k).1 ∧ InAt wr N b (listK (fun _ s => stF b s) s k).2.1 (listK (fun _ s => stF b s) s k).2.2 ∧ w.grownBy wr (some N))) (fun _ i _ => n - (intOf i).toNat)
  case atStart => exact ⟨0, Nat.zero_le _, rfl, Lib.hid ⟨nown0 _ _, HI.out, grown_below (Below.refl _ _) _⟩⟩
  case round =>
    obtain ⟨k, hk, rfl, HS⟩ := hrel
    by_cases hlk : k < n
    · have hlk' : (k : Int) < (n : Int) := by omega
      have HRk := Lib.hid (HR.out wr k HS.out.2.1)
      have HNk := Lib.hid (HN.out k)
      have HLk := Lib.hid (HKs.out k).2
      generalize (stF b (listK (fun _ s => stF b s) s k).2).1 = x at *
      generalize (stF b (listK (fun _ s => stF b s) s k).2).2 = s2 at *
      obtain ⟨q, hq⟩ : ∃ q, (listK (fun _ s => stF b s) s k).1 = q := ⟨_, rfl⟩
      rw [hq] at HNk HLk HS
      obtain ⟨pa, pl, pc, rfl⟩ := own_any HS.out.1
      clear hq
      go_wp2_with fail
      refine (HRk.out).mono ?_; rintro r w2 ⟨rfl, hi2, hg2⟩
      have HO2 := Lib.hid (own_far HS.out.1 hg2 hNl)
      have HI2 := Lib.hid (And.intro hi2 (grown_then HS.out.2.2 hg2))
      have hsz := HI2.out.2.size
      clear hi2 hg2
      go_wp2_with (at_builtin; refine wpList_append_own _ rfl _ _ 46 rfl w.heap.size 65 i0 (.float .f64 0) 1 8 Tryz.underlying46 hi hz0 hz1 hz2 zcells_flo (by decide) _ _ (q.map (Value.float .f64)) rfl (HO2.out.alloc _) ⟨w2.heap.size, 0, none⟩ 1 1 [Value.float .f64 x] rfl rfl (one_cells w2 (Value.float .f64 x) 65) (by intro u hu; simp at hu; rcases hu with rfl; rfl) (by have := HLk.out; unfold maxLen; omega) (by have := HLk.out; omega) (by simp; omega) ?_; intro v' w3 hown hgrow hiff; clear hiff; have hown := nown_snoc hown; have HQ := Lib.hid (And.intro hown (And.intro ((HI2.out.1.below (below_one _ _)).own (HO2.out.alloc _) (by decide) hNl hgrow) (grown_row (grown_then HI2.out.2 (grown_below (below_one _ _) _)) hgrow (fun g hg => (HO2.out.lt g hg).1)))); obtain ⟨pv', lv', cv', rfl⟩ := own_any hown; clear hown hgrow)
      go_roundw
      case rel => exact ⟨k + 1, by omega, by go_num, Lib.hid ⟨by rw [HNk.out]; exact HQ.out.1, by rw [HNk.out]; exact HQ.out.2.1, HQ.out.2.2⟩⟩
      case measure => simp [intOf]; omega
    · have hkn : k = n := by omega
      subst hkn
      obtain ⟨pa, pl, pc, rfl⟩ := own_any HS.out.1
      go_wp2_with fail
      go_ret
      exact ⟨⟨_, rfl, HS.out.1⟩, HS.out.2⟩
set_option maxRecDepth 100000
open Go.RowKit
set_option linter.unusedVariables false
theorem append_own_step {P : Program} (w : World) {ops : Array Oper} {o : Oper} {a : Act} {K : Act → World → Prop} {Q : Exit → Act → World → Prop} {E : Prop} (hgd : o.guard = none) (s x : Operand) (t : TypeId)
    (ho : o.op = .call { callee := .builtin .append, args := #[s, x], argTypes := #[t, t] })
    (base : Nat) (e : TypeId) (i : TypeInfo) (z : Value) (size bytes : Nat) (ht : P.underlying t = some (.slice e)) (hi : P.info? e = some i) (hz : i.zero = some z) (hsize : i.size = size) (hby : i.bytes = bytes) (hzs : z.cells.size = size) (hsz : 0 < size)
    (v : Value) (n : Nat) (xs : List Value) (hs : a.eval s = v) (hown : w.ownsRow base e size v n xs)
    (ad : Addr) (m c : Nat) (news : List Value) (hx : a.eval x = .slice (some ad) m c) (hl : news.length = m * size) (hnews : ∀ j u, news[j]? = some u → w.cell? (ad.add j) = some u) (h1 : ∀ u ∈ news, u.oneCell' = true)
    (h63 : n + m ≤ maxLen) (hbytes : (n + m) * bytes ≤ 140737488355328) (hbase : base ≤ w.heap.size)
    (h : ∀ v' w', w'.ownsRow base e size v' (n + m) (xs ++ news) → w.grownBy w' v.ownBlock → K (a.put o.dst v') w') :
    if Region.wanted o (yielded ops a.tmps) = true then Oper.wp P o a w K Q else E := by
  have hw : Region.wanted o (yielded ops a.tmps) = true := by simp [Region.wanted, hgd]
  rw [if_pos hw]
  exact wp_append_own w s x t ho base e i z size bytes ht hi hz hsize hby hzs hsz v n xs hs hown ad m c news hx hl hnews h1 h63 hbytes hbase fun v' w' h2 h3 _ => h v' w' h2 h3
theorem own_apart {w w' : World} {B B' E E' sz sz' n n' : Nat} {v v' : Value} {xs xs' : List Value} (h : w.ownsRow B E sz v n xs) (h' : w.ownsRow B' E' sz' v' n' xs') (hE : E ≠ E') (hg : w.grownBy w' v'.ownBlock) : w'.ownsRow B E sz v n xs := by
  refine h.kept hg ?_
  rcases h.2 with ⟨rfl, -⟩ | ⟨g, cap, cur, rfl, -, h3, -⟩
  · exact .inl rfl
  · right
    rcases h'.2 with ⟨rfl, -⟩ | ⟨g', cap', cur', rfl, -, h3', -⟩
    · simp [Value.ownBlock]
    · intro e
      have e2 : g = g' := by simpa [Value.ownBlock] using e
      subst e2
      rw [h3] at h3'
      have := Option.some.inj h3'
      injection this with _ e3 _
      exact hE e3
theorem box_own {w w' : World} {K B E sz n : Nat} {D I M V u : Value} {xs : List Value} (h : Box w K D I M V) (ho : w.ownsRow B E sz u n xs) (hK : K < B) (hg : w.grownBy w' u.ownBlock) : Box w' K D I M V := by
  rcases ho.2 with ⟨rfl, -⟩ | ⟨g, cap, cur, rfl, h2, h3, -⟩
  · exact h.below ((Below.refl _ _).grown hg (Nat.le_refl _) (fun k hk => by simp [Value.ownBlock] at hk))
  · exact h.grown (N := g) hg (by omega)
/-- The three slices of a fact are of the call's own. -/
structure FOwn3 (w : World) (B : Nat) (C J N : Value) (f : Fa) : Prop where
  c : LOwn 3 w B C f.cs
  i : LOwn 2 w B J f.is
  n : NOwn w B N f.ns
theorem FOwn3.far {w w' : World} {B K : Nat} {C J N : Value} {f : Fa} (h : FOwn3 w B C J N f) (hg : w.grownBy w' (some K)) (hK : K < B) : FOwn3 w' B C J N f := ⟨own_far h.c hg hK, own_far h.i hg hK, own_far h.n hg hK⟩
theorem FOwn3.alloc {w : World} {B : Nat} {C J N : Value} {f : Fa} (h : FOwn3 w B C J N f) (o : Obj) : FOwn3 (w.alloc o) B C J N f := ⟨h.c.alloc o, h.i.alloc o, h.n.alloc o⟩
theorem FOwn3.low {w : World} {B B' : Nat} {C J N : Value} {f : Fa} (h : FOwn3 w B C J N f) (hb : B' ≤ B) : FOwn3 w B' C J N f := ⟨own_low h.c hb, own_low h.i hb, own_low h.n hb⟩
theorem FOwn3.fact {w : World} {B : Nat} {C J N : Value} {f : Fa} (h : FOwn3 w B C J N f) : Fact3 w C J N f := ⟨Ints.own h.c, Ints.own h.i, Fls.own h.n⟩
theorem FOwn3.beside {w w' : World} {B B' n : Nat} {C J N v : Value} {f : Fa} {xs : List Value} (h : FOwn3 w B C J N f) (ho : w.ownsRow B' 48 3 v n xs) (hg : w.grownBy w' v.ownBlock) : FOwn3 w' B C J N f :=
  ⟨own_apart h.c ho (by decide) hg, own_apart h.i ho (by decide) hg, own_apart h.n ho (by decide) hg⟩
def cellsF (Cs : List (Value × Value × Value)) : List Value := Cs.flatMap fun c => [c.1, c.2.1, c.2.2]
theorem cellsF_snoc (Cs : List (Value × Value × Value)) (x y z : Value) : cellsF Cs ++ [x, y, z] = cellsF (Cs ++ [(x, y, z)]) := by simp [cellsF]
theorem cellsF_get : ∀ (Cs : List (Value × Value × Value)) (i : Nat) (h : i < Cs.length), (cellsF Cs)[i * 3]? = some Cs[i].1 ∧ (cellsF Cs)[i * 3 + 1]? = some Cs[i].2.1 ∧ (cellsF Cs)[i * 3 + 2]? = some Cs[i].2.2
  | [], i, h => by simp at h
  | c :: Cs, 0, _ => by simp [cellsF]
  | c :: Cs, i + 1, h => by
    have ih := cellsF_get Cs i (by simpa using h)
    have e : cellsF (c :: Cs) = c.1 :: c.2.1 :: c.2.2 :: cellsF Cs := by simp [cellsF]
    have e1 : (i + 1) * 3 = i * 3 + 1 + 1 + 1 := by omega
    rw [e, e1]
    simp only [List.getElem?_cons_succ, List.getElem_cons_succ]
    exact ih
/-- A slice of facts of the call's own. -/
def FsOwn (w : World) (B : Nat) (v : Value) (l : List Fa) : Prop :=
  ∃ Cs : List (Value × Value × Value), w.ownsRow B 48 3 v Cs.length (cellsF Cs) ∧ Cs.length = l.length ∧ ∀ i (h : i < Cs.length) (h2 : i < l.length), FOwn3 w B Cs[i].1 Cs[i].2.1 Cs[i].2.2 l[i]
theorem FsOwn.far {w w' : World} {B K : Nat} {v : Value} {l : List Fa} (h : FsOwn w B v l) (hg : w.grownBy w' (some K)) (hK : K < B) : FsOwn w' B v l := by
  obtain ⟨Cs, h1, h2, h3⟩ := h
  exact ⟨Cs, own_far h1 hg hK, h2, fun i k1 k2 => (h3 i k1 k2).far hg hK⟩
theorem fsown0 (w : World) (B : Nat) : FsOwn w B (.slice none 0 0) [] := ⟨[], ⟨by simp [cellsF], .inl ⟨rfl, rfl⟩⟩, rfl, fun i h => by simp at h⟩
theorem FsOwn.any {w : World} {B : Nat} {v : Value} {l : List Fa} (h : FsOwn w B v l) : ∃ a n c, v = .slice a n c := by
  obtain ⟨Cs, h1, -⟩ := h
  exact own_any h1
theorem FsOwn.facts {w : World} {B : Nat} {v : Value} {l : List Fa} (h : FsOwn w B v l) : Facts w v l := by
  obtain ⟨Cs, ⟨hl, h⟩, h2, h3⟩ := h
  rcases h with ⟨rfl, h0⟩ | ⟨g, cap, cur, rfl, _, hb, hnc, hm, hs, ht⟩
  · have : l = [] := List.length_eq_zero_iff.1 (by omega)
    subst this
    exact ⟨none, 0, rfl, by simp, by simp, .inl rfl⟩
  · refine ⟨_, cap, by rw [h2], by omega, by unfold maxLen at hm; omega, .inr ⟨g, 0, rfl, (Array.getElem?_eq_some_iff.1 hb).1, fun i hi => ?_⟩⟩
    obtain ⟨c0, c1, c2⟩ := cellsF_get Cs i (by omega)
    rw [← ht, List.getElem?_take, if_pos (by omega)] at c0 c1 c2
    refine ⟨_, _, _, ⟨?_, ?_, ?_⟩, (h3 i (by omega) hi).fact⟩
    · rw [Nat.zero_add, cell_of_row _ _ (i * 3) _ _ (0, 0) hb]
      simpa using c0
    · rw [Nat.zero_add, cell_of_row _ _ (i * 3 + 1) _ _ (0, 0) hb]
      simpa using c1
    · rw [Nat.zero_add, cell_of_row _ _ (i * 3 + 2) _ _ (0, 0) hb]
      simpa using c2
theorem FsOwn.snoc {w w' : World} {B : Nat} {v v' : Value} {l : List Fa} {Cs : List (Value × Value × Value)} {C J X : Value} {f : Fa} (h : w.ownsRow B 48 3 v Cs.length (cellsF Cs)) (hl : Cs.length = l.length)
    (ha : ∀ i (h : i < Cs.length) (h2 : i < l.length), FOwn3 w B Cs[i].1 Cs[i].2.1 Cs[i].2.2 l[i]) (hn : FOwn3 w B C J X f)
    (hr : w'.ownsRow B 48 3 v' (Cs.length + 1) (cellsF Cs ++ [C, J, X])) (hg : w.grownBy w' v.ownBlock) : FsOwn w' B v' (l ++ [f]) := by
  rw [cellsF_snoc] at hr
  refine ⟨Cs ++ [(C, J, X)], by rw [List.length_append]; exact hr, by simp [hl], fun i h1 h2 => ?_⟩
  simp only [List.length_append, List.length_cons, List.length_nil] at h1 h2
  by_cases hi : i < Cs.length
  · have hi2 : i < l.length := by omega
    rw [List.getElem_append_left hi, List.getElem_append_left hi2]
    exact (ha i hi hi2).beside h hg
  · have e1 : i = Cs.length := by omega
    have e2 : i = l.length := by omega
    have g1 : (Cs ++ [(C, J, X)])[i]'(by simp; omega) = (C, J, X) := by subst e1; simp
    have g2 : (l ++ [f])[i]'(by simp; omega) = f := by
      rw [List.getElem_append_right (by omega)]
      simp [e2]
    rw [g1, g2]
    exact hn.beside h hg
/-- What stands in memory while a fact is read: the reader, the schema's cells, the fact's cells. -/
structure Gf (w r wr : World) (N : Nat) (b : List Int) (s : Nat × Nat) (D I M V C J X : Value) : Prop where
  i : InAt wr N b s.1 s.2
  x : Box wr w.heap.size D I M V
  k : FBox wr r.heap.size C J X
  g : r.grownBy wr (some N)
  sz : r.heap.size + 1 ≤ wr.heap.size
  lt : w.heap.size < r.heap.size
  nl : N < w.heap.size
theorem Gf.call {w r wr w1 : World} {N : Nat} {b : List Int} {s t : Nat × Nat} {D I M V C J X : Value} (h : Gf w r wr N b s D I M V C J X) (hi : InAt w1 N b t.1 t.2) (hg : wr.grownBy w1 (some N)) : Gf w r w1 N b t D I M V C J X := by
  have h1 := h.lt
  have h2 := h.nl
  exact ⟨hi, h.x.grown hg (by omega), h.k.grown hg (by omega), grown_then h.g hg, Nat.le_trans h.sz hg.size, h1, h2⟩
theorem Gf.stay {w r wr w1 : World} {N : Nat} {b : List Int} {s : Nat × Nat} {D I M V C J X C' J' X' : Value} (h : Gf w r wr N b s D I M V C J X) (hk : FBox w1 r.heap.size C' J' X') (hg : wr.grownBy w1 (some r.heap.size)) : Gf w r w1 N b s D I M V C' J' X' := by
  have h1 := h.lt
  have h2 := h.nl
  exact ⟨h.i.far h.k (by decide) (by omega) hg, h.x.grown hg (by omega), hk, grown_own h.g hg (Nat.le_refl _), Nat.le_trans h.sz hg.size, h1, h2⟩
theorem Gf.below {w r wr w1 : World} {N : Nat} {b : List Int} {s : Nat × Nat} {D I M V C J X : Value} (h : Gf w r wr N b s D I M V C J X) (hb : Below wr.heap.size wr w1) : Gf w r w1 N b s D I M V C J X :=
  ⟨h.i.below hb, h.x.below hb, h.k.below hb, grown_then h.g (grown_below hb _), Nat.le_trans h.sz hb.size, h.lt, h.nl⟩
theorem Gf.own {w r wr w1 : World} {N : Nat} {b : List Int} {s : Nat × Nat} {D I M V C J X u : Value} {E sz n : Nat} {xs : List Value} (h : Gf w r wr N b s D I M V C J X) (ho : wr.ownsRow (r.heap.size + 1) E sz u n xs) (hE : E ≠ 5) (hg : wr.grownBy w1 u.ownBlock) : Gf w r w1 N b s D I M V C J X := by
  have h1 := h.lt
  have h2 := h.nl
  have h3 := h.sz
  refine ⟨h.i.own ho hE (by omega) hg, box_own h.x ho (by omega) hg, ?_, grown_row h.g hg (fun g hg => by have := (ho.lt g hg).1; omega), Nat.le_trans h3 hg.size, h1, h2⟩
  rcases ho.2 with ⟨rfl, -⟩ | ⟨g, cap, cur, rfl, h4, h5, -⟩
  · exact h.k.below ((Below.refl _ _).grown hg (Nat.le_refl _) (fun k hk => by simp [Value.ownBlock] at hk))
  · exact h.k.grown (M := g) hg (by omega)
theorem gf_start {w r : World} {N : Nat} {b : List Int} {s : Nat × Nat} {D I M V : Value} (hi : InAt r N b s.1 s.2) (hx : Box r w.heap.size D I M V) (hN : N < w.heap.size) : Gf w r (r.alloc (FaO (.slice none 0 0) (.slice none 0 0) (.slice none 0 0))) N b s D I M V (.slice none 0 0) (.slice none 0 0) (.slice none 0 0) :=
  ⟨hi.below (below_one _ _), hx.below (below_one _ _), fbox_new _ _ _ _, grown_below (below_one _ _) _, by simp, hx.lt, hN⟩
/-- What the facts' reading stands at. -/
def GL (w wr : World) (N : Nat) (b : List Int) (q : List Fa × Nat × Nat) (D I M V lv : Value) : Prop :=
  FsOwn wr (w.heap.size + 1) lv q.1 ∧ InAt wr N b q.2.1 q.2.2 ∧ Box wr w.heap.size D I M V ∧ w.grownBy wr (some N)
theorem dim_at {w : World} {a : Option Addr} {n cap : Nat} {ds : List (ByteArray × Int)} {j : Nat} (h : Dims w (.slice a n cap) ds) (hj : j < ds.length) : ∃ b off, a = some ⟨b, off, none⟩ ∧ b < w.heap.size ∧ w.cell? ⟨b, off + j * 2, none⟩ = some (.string (dn ds j)) ∧ w.cell? ⟨b, off + j * 2 + 1, none⟩ = some (.int .i64 (dz ds j)) := by
  obtain ⟨a', cap', e', -, -, h3⟩ := h
  injection e' with e1 e2 e3
  subst e1
  rcases h3 with h3 | ⟨b, off, rfl, hlt, hc⟩
  · rw [h3] at hj; simp at hj
  · exact ⟨b, off, rfl, hlt, hc j hj⟩
set_option maxHeartbeats 16000000 in
theorem getFacts_any (w0 w : World) (D I M V : Value) (S : Sc) (N : Nat) (b : List Int) (s : Nat × Nat) (n : Nat) (h : Sch4 w0 D I M V S) (hw : Below w0.heap.size w0 w) (hN : w0.heap.size ≤ N) (hi0 : InAt w N b s.1 s.2) (hs : OkSt b s) (hb : Bt b) (hn : n ≤ 200)
    (hS : ∀ k, k < S.ds.length → 1 ≤ dz S.ds k ∧ dz S.ds k ≤ 4096) (hc : S.ds.length ≤ 6 ∧ S.is.length ≤ 3 ∧ S.ns.length ≤ 2) :
    Calls Tryz.prog 16 #[SchV D I M V, .pointer (some ⟨N, 0, none⟩), .int .u64 n] w fun r w' => (∃ v B, r = .returned v ∧ N < B ∧ FsOwn w' B v (listK (fun _ s => rdFa b (mostsS S) S.is.length S.ns.length s) s n).1) ∧ InAt w' N b (listK (fun _ s => rdFa b (mostsS S) S.is.length S.ns.length s) s n).2.1 (listK (fun _ s => rdFa b (mostsS S) S.is.length S.ns.length s) s n).2.2 ∧ w.grownBy w' (some N) := by
  obtain ⟨i0, hi, hz0, hz1, hz2⟩ := info_parts Tryz.infoIntf
  obtain ⟨j0, hj, hy0, hy1, hy2⟩ := info_parts Tryz.infoFact
  have hNl := hi0.lt
  have HKs := Lib.hid (fun k => listK_st (rd := fun _ s => rdFa b (mostsS S) S.is.length S.ns.length s) (P := OkSt b) (fun _ _ h => rdFa_st hb (mostsS S) S.is.length S.ns.length h) hs k)
  have HN := Lib.hid (fun k => show listK (fun _ s => rdFa b (mostsS S) S.is.length S.ns.length s) s (k + 1) = ((listK (fun _ s => rdFa b (mostsS S) S.is.length S.ns.length s) s k).1 ++ [(rdFa b (mostsS S) S.is.length S.ns.length (listK (fun _ s => rdFa b (mostsS S) S.is.length S.ns.length s) s k).2).1], (rdFa b (mostsS S) S.is.length S.ns.length (listK (fun _ s => rdFa b (mostsS S) S.is.length S.ns.length s) s k).2).2) from rfl)
  have HD := Lib.hid h.d
  have HB0 := Lib.hid (below_one w (SchO D I M V))
  have HX0 := Lib.hid (box_new w D I M V)
  have HI0 := Lib.hid (hi0.below HB0.out)
  have HW := Lib.hid (fun wr (hg : w.grownBy wr (some N)) => below_grown hw hg hN)
  have HS := Lib.hid hS
  have HBt := Lib.hid hb
  obtain ⟨⟨a, c, rfl⟩, ⟨a2, c2, rfl⟩, ⟨a3, c3, rfl⟩, a4, c4, rfl⟩ := h.slices
  have HML := Lib.hid (mosts_len S)
  have HMG := Lib.hid (fun k (hk : k < S.ds.length) => mosts_get hk)
  clear h hw hN hi0 hs hS hb
  go_enter Tryz.func16, Tryz.ntmps16
  go_wp2_with fail
  generalize hWx : w.alloc (SchO (.slice a S.ds.length c) (.slice a2 S.is.length c2) (.slice a3 S.ns.length c3) (.slice a4 S.vs.length c4)) = W at *
  have HG0 := Lib.hid (show GL w W N b (listK (fun _ s => rdFa b (mostsS S) S.is.length S.ns.length s) s 0) (.slice a S.ds.length c) (.slice a2 S.is.length c2) (.slice a3 S.ns.length c3) (.slice a4 S.vs.length c4) (.slice none 0 0) from ⟨fsown0 _ _, HI0.out, HX0.out, grown_below HB0.out _⟩)
  clear hWx
  go_loopw [7, 12] (fun lv i wr => ∃ k : Nat, k ≤ n ∧ i = .int .u64 k ∧ Hid (GL w wr N b (listK (fun _ s => rdFa b (mostsS S) S.is.length S.ns.length s) s k) (.slice a S.ds.length c) (.slice a2 S.is.length c2) (.slice a3 S.ns.length c3) (.slice a4 S.vs.length c4) lv)) (fun _ i _ => n - (intOf i).toNat)
  case atStart => exact ⟨0, Nat.zero_le _, rfl, HG0⟩
  case round =>
    obtain ⟨k, hk, rfl, HG⟩ := hrel
    generalize wr = R0 at *
    by_cases hlk : k < n
    · have hlk' : (k : Int) < (n : Int) := by omega
      obtain ⟨hF, hI, hX, hG⟩ := HG.out
      obtain ⟨Cs, hC1, hC2, hC3⟩ := hF
      obtain ⟨pa, pl, pc, rfl⟩ := own_any hC1
      have HC1 := Lib.hid (And.intro hC1 (And.intro hC2 hC3))
      have HGG := Lib.hid hG
      have HGs := Lib.hid (gf_start hI hX hNl)
      have HNk := Lib.hid (HN.out k)
      have HLk := Lib.hid (HKs.out k)
      have hOk := (HKs.out k).1
      clear hC1 hC2 hC3 hI hX hG HG
      obtain ⟨q, hq⟩ : ∃ q, (listK (fun _ s => rdFa b (mostsS S) S.is.length S.ns.length s) s k).1 = q := ⟨_, rfl⟩
      obtain ⟨t, ht⟩ : ∃ t, (listK (fun _ s => rdFa b (mostsS S) S.is.length S.ns.length s) s k).2 = t := ⟨_, rfl⟩
      rw [hq] at HC1 HNk HLk
      rw [ht] at HNk HLk HGs hOk
      clear hq ht
      have i1 : IntKind.u64.wrap ((k : Int) + 1) = (k : Int) + 1 := by rw [IntKind.wrap_u64]; omega
      have HCk := Lib.hid (fun j => listK_st (rd := fun k s => stU b ((mostsS S).getD k 0) s) (P := OkSt b) (fun _ _ h => stU_st HBt.out _ h) hOk j)
      have HCn := Lib.hid (fun j => show listK (fun k s => stU b ((mostsS S).getD k 0) s) t (j + 1) = ((listK (fun k s => stU b ((mostsS S).getD k 0) s) t j).1 ++ [(stU b ((mostsS S).getD j 0) (listK (fun k s => stU b ((mostsS S).getD k 0) s) t j).2).1], (stU b ((mostsS S).getD j 0) (listK (fun k s => stU b ((mostsS S).getD k 0) s) t j).2).2) from rfl)
      have HCv := Lib.hid (fun j (hj : j < S.ds.length) => stU_val (most := (mostsS S).getD j 0) HBt.out (by rw [HMG.out j hj]; have := HS.out j hj; omega) (listK (fun k s => stU b ((mostsS S).getD k 0) s) t j).2)
      have HRC := Lib.hid (show listK (fun k s => stU b ((mostsS S).getD k 0) s) t S.ds.length = rdC b (mostsS S) t by unfold rdC; rw [HML.out])
      have hR1 := HGs.out.lt
      obtain ⟨x0, x1, x2, x3⟩ := HGs.out.x.reads
      go_wp2_with fail
      clear x0 x1 x2 x3
      go_loopw [17] (fun i wx => ∃ (j : Nat) (C : Value), j ≤ S.ds.length ∧ i = .int .i64 j ∧ Hid (LOwn 3 wx (R0.heap.size + 1) C (listK (fun k s => stU b ((mostsS S).getD k 0) s) t j).1 ∧ Gf w R0 wx N b (listK (fun k s => stU b ((mostsS S).getD k 0) s) t j).2 (.slice a S.ds.length c) (.slice a2 S.is.length c2) (.slice a3 S.ns.length c3) (.slice a4 S.vs.length c4) C (.slice none 0 0) (.slice none 0 0))) (fun i _ => S.ds.length - (intOf i).toNat)
      case atStart => exact ⟨0, _, Nat.zero_le _, rfl, Lib.hid ⟨lown0 _ _ _, HGs.out⟩⟩
      case round =>
        obtain ⟨j, C, hjj, rfl, HQ⟩ := hrel
        obtain ⟨ca, cl, cc, rfl⟩ := own_any HQ.out.1
        by_cases hlj : j < S.ds.length
        · have hlj' : (j : Int) < (S.ds.length : Int) := by omega
          obtain ⟨db, doff, rfl, hdlt, d0, d1⟩ := dim_at HD.out hlj
          have hbw := HW.out _ (grown_then HGG.out HQ.out.2.g)
          have d0 := cell_hold hbw d0
          have d1 := cell_hold hbw d1
          have hsz := HS.out j hlj
          have hvz := HCv.out j hlj
          have HCnj := Lib.hid (HCn.out j)
          have HCkj := Lib.hid (HCk.out j)
          rw [HMG.out j hlj] at hvz HCnj
          have HUj := Lib.hid (fun wy (h : InAt wy N b (listK (fun k s => stU b ((mostsS S).getD k 0) s) t j).2.1 (listK (fun k s => stU b ((mostsS S).getD k 0) s) t j).2.2) => inU_st wy N b _ (dz S.ds j - 1) h (HCk.out j).1.2)
          generalize dn S.ds j = dnm at *
          generalize dz S.ds j = Z at *
          generalize (stU b (Z - 1) (listK (fun k s => stU b ((mostsS S).getD k 0) s) t j).2).1 = z at *
          generalize (stU b (Z - 1) (listK (fun k s => stU b ((mostsS S).getD k 0) s) t j).2).2 = t2 at *
          obtain ⟨cq, hcq⟩ : ∃ q, (listK (fun k s => stU b ((mostsS S).getD k 0) s) t j).1 = q := ⟨_, rfl⟩
          obtain ⟨t1, ht1⟩ : ∃ t1, (listK (fun k s => stU b ((mostsS S).getD k 0) s) t j).2 = t1 := ⟨_, rfl⟩
          rw [hcq] at HCnj HCkj HQ
          rw [ht1] at HUj HQ
          clear hcq ht1 hbw
          have iz1 : IntKind.i64.wrap (Z - 1) = Z - 1 := IntWalk.i64_in _ (by omega)
          have iz1' : wrap64 (Z - 1) = Z - 1 := wrap64_in (by omega) (by omega)
          have iz2 : IntKind.u64.wrap (Z - 1) = Z - 1 := by rw [IntKind.wrap_u64]; omega
          have iz3 : IntKind.i64.wrap z = z := IntWalk.i64_in _ (by omega)
          have iz3' : wrap64 z = z := wrap64_in (by omega) (by omega)
          clear hvz hsz
          go_upto_region 8 with fail
          have hbd := below_one wr (.cells #[.string dnm, .int .i64 Z] 41)
          have HDm := Lib.hid (show Dim2 (wr.alloc (.cells #[.string dnm, .int .i64 Z] 41)) wr.heap.size dnm Z from heap_alloc_new wr _)
          have HQ2 := Lib.hid (HQ.out.2.below hbd)
          have HO2 := Lib.hid (HQ.out.1.alloc (.cells #[.string dnm, .int .i64 Z] 41))
          generalize hWd : wr.alloc (.cells #[.string dnm, .int .i64 Z] 41) = Wd at *
          clear hbd hWd d0 d1
          have HQd := Lib.hid (HQ2.out.below (Below.refl _ _).drew)
          have HOd := Lib.hid (show LOwn 3 Wd.drew (R0.heap.size + 1) (.slice ca cl cc) cq from own_far HO2.out (grown_below (Below.refl _ _).drew (some R0.heap.size)) (by omega))
          have HUd := Lib.hid (HUj.out _ HQd.out.i)
          have k0 := HQd.out.k.reads.1
          have hdd := HDm.out.low (Below.refl Wd.heap.size Wd).drew
          have d1 := hdd.reads.2.1
          clear hdd
          go_region_law (first
            | (refine append_own_step _ (by rfl) _ _ _ (by rfl) (R0.heap.size + 1) 3 i0 (.int .i64 0) 1 8 Tryz.underlying44 hi hz0 hz1 hz2 zcells_int (by decide) _ _ (cq.map (Value.int .i64)) (by rfl) (HO3.out.alloc _) ⟨w3.heap.size, 0, none⟩ 1 1 [.int .i64 z] (by rfl) rfl (one_cells w3 (.int .i64 z) 3) (by intro u hu; simp at hu; rcases hu with rfl; rfl) (by have := HCkj.out.2; unfold maxLen; omega) (by have := HCkj.out.2; omega) (by have := HS3.out.sz; simp; omega) ?_; intro v' w4 hown hgrow; have hown := lown_snoc hown; have HZ := Lib.hid (And.intro hown ((HS3.out.below (below_one _ _)).own (HO3.out.alloc _) (by decide) hgrow)); obtain ⟨m0, m1, m2⟩ := HZ.out.2.k.reads; obtain ⟨f0, f1, f2⟩ := HZ.out.2.k.free; obtain ⟨pv', lv', cv', rfl⟩ := own_any hown; clear hown hgrow)
            | (go_simp; go_at_call 14; refine (HUd.out).mono ?_; rintro rr w3 ⟨rfl, hr, hg⟩; have HS3 := Lib.hid (HQd.out.call hr hg); have HO3 := Lib.hid (own_far HOd.out hg (by omega)); have k0 := HS3.out.k.reads.1; have k4 := cell_hold (below_one w3 (.cells #[.int .i64 z] 3)) k0; clear hr hg))
          all_goals
            have HO5 := Lib.hid (own_far HZ.out.1 (grown_set w4 R0.heap.size 0 (.slice pv' lv' cv')) (by omega))
            have HS5 := Lib.hid (HZ.out.2.stay (HZ.out.2.k.set0 (u := .slice pv' lv' cv')) (grown_set w4 R0.heap.size 0 (.slice pv' lv' cv')))
            clear m0 m1 m2 f0 f1 f2 HZ
            go_wp2_with fail
            go_roundw
            case rel => exact ⟨j + 1, _, by omega, by go_num, Lib.hid ⟨by rw [HCnj.out]; exact HO5.out, by rw [HCnj.out]; exact HS5.out⟩⟩
            case measure => simp [intOf]; omega
        · have hje : j = S.ds.length := by omega
          subst hje
          have hQ := HQ.out
          rw [HRC.out] at hQ
          have HQ := Lib.hid hQ
          clear hQ HCk HCn HCv HRC
          have hst1 := rdC_st HBt.out (mostsS S) hOk
          have HI2 := Lib.hid (fun wy (h : InAt wy N b (rdC b (mostsS S) t).2.1 (rdC b (mostsS S) t).2.2) => readI2_any wy N b (rdC b (mostsS S) t).2 S.is.length (by omega) h hst1.1)
          have hst2 := rdI2_st S.is.length hst1.1
          have HN2 := Lib.hid (fun wy (h : InAt wy N b (rdI2 b S.is.length (rdC b (mostsS S) t).2).2.1 (rdI2 b S.is.length (rdC b (mostsS S) t).2).2.2) => readN2_any wy N b (rdI2 b S.is.length (rdC b (mostsS S) t).2).2 S.ns.length (by omega) h hst2.1)
          have HFa := Lib.hid (show rdFa b (mostsS S) S.is.length S.ns.length t = (⟨(rdC b (mostsS S) t).1, (rdI2 b S.is.length (rdC b (mostsS S) t).2).1, (rdN2 b S.ns.length (rdI2 b S.is.length (rdC b (mostsS S) t).2).2).1⟩, (rdN2 b S.ns.length (rdI2 b S.is.length (rdC b (mostsS S) t).2).2).2) from rfl)
          generalize (rdN2 b S.ns.length (rdI2 b S.is.length (rdC b (mostsS S) t).2).2).2 = t3 at *
          generalize (rdN2 b S.ns.length (rdI2 b S.is.length (rdC b (mostsS S) t).2).2).1 = r3 at *
          generalize (rdI2 b S.is.length (rdC b (mostsS S) t).2).2 = t2 at *
          generalize (rdI2 b S.is.length (rdC b (mostsS S) t).2).1 = r2 at *
          generalize (rdC b (mostsS S) t).2 = t1 at *
          generalize (rdC b (mostsS S) t).1 = r1 at *
          clear hst1 hst2
          obtain ⟨x0, x1, x2, x3⟩ := HQ.out.2.x.reads
          go_wp2_with fail
          refine (HI2.out _ HQ.out.2.i).mono ?_; rintro rr w2 ⟨⟨u2, rfl, ho⟩, hr, hg⟩
          have hcc := HQ.out.2.call hr hg
          have OC2 := Lib.hid (own_far (own_far HQ.out.1 hg (by omega)) (grown_set w2 R0.heap.size 1 u2) (by omega))
          have OI2 := Lib.hid (own_far (own_low ho HQ.out.2.sz) (grown_set w2 R0.heap.size 1 u2) (by omega))
          have HG2 := Lib.hid (hcc.stay (hcc.k.set1 (u := u2)) (grown_set w2 R0.heap.size 1 u2))
          clear x0 x1 x2 x3
          obtain ⟨k0, k1, k2⟩ := hcc.k.reads
          obtain ⟨f0, f1, f2⟩ := hcc.k.free
          obtain ⟨ia, il, ic, rfl⟩ := own_any ho
          clear ho hr hg hcc
          obtain ⟨x0, x1, x2, x3⟩ := HG2.out.x.reads
          generalize hW2 : w2.setCell ⟨R0.heap.size, 1, none⟩ (.slice ia il ic) = W2 at OC2 OI2 HG2 x0 x1 x2 x3
          go_wp2_with fail
          refine (HN2.out _ HG2.out.i).mono ?_; rintro rr w3 ⟨⟨u3, rfl, ho⟩, hr, hg⟩
          clear hW2 k0 k1 k2 f0 f1 f2
          have hcc := HG2.out.call hr hg
          have OC3 := Lib.hid (own_far (own_far OC2.out hg (by omega)) (grown_set w3 R0.heap.size 2 u3) (by omega))
          have OI3 := Lib.hid (own_far (own_far OI2.out hg (by omega)) (grown_set w3 R0.heap.size 2 u3) (by omega))
          have ON3 := Lib.hid (own_far (own_low ho HG2.out.sz) (grown_set w3 R0.heap.size 2 u3) (by omega))
          have HG3 := Lib.hid (hcc.stay (hcc.k.set2 (u := u3)) (grown_set w3 R0.heap.size 2 u3))
          obtain ⟨k0, k1, k2⟩ := hcc.k.reads
          obtain ⟨f0, f1, f2⟩ := hcc.k.free
          obtain ⟨na, nl, nc, rfl⟩ := own_any ho
          clear ho hr hg hcc x0 x1 x2 x3
          obtain ⟨y0, y1, y2⟩ := HG3.out.k.reads
          generalize hW3 : w3.setCell ⟨R0.heap.size, 2, none⟩ (.slice na nl nc) = W3 at OC3 OI3 ON3 HG3 y0 y1 y2
          have HR3 := Lib.hid (own_far HC1.out.1 HG3.out.g (by omega))
          have HA3 := Lib.hid (fun i h1 h2 => (HC1.out.2.2 i h1 h2).far HG3.out.g (by omega))
          have HF3 := Lib.hid (show FOwn3 W3 (w.heap.size + 1) (.slice ca cl cc) (.slice ia il ic) (.slice na nl nc) ⟨r1, r2, r3⟩ from (FOwn3.mk OC3.out OI3.out ON3.out).low (by have := HG3.out.lt; omega))
          go_wp2_with (at_builtin; refine wpList_append_own _ rfl _ _ 30 rfl (w.heap.size + 1) 48 j0 (.agg #[.slice none 0 0, .slice none 0 0, .slice none 0 0]) 3 72 Tryz.underlying30 hj hy0 hy1 hy2 zcells_fact (by decide) _ _ (cellsF Cs) rfl (HR3.out.alloc _) ⟨W3.heap.size, 0, none⟩ 1 1 [.slice ca cl cc, .slice ia il ic, .slice na nl nc] rfl rfl (three_cells W3 _ _ _ 48) (by intro u hu; simp at hu; rcases hu with rfl | rfl | rfl <;> rfl) (by have := HC1.out.2.1; have := HLk.out.2; unfold maxLen; omega) (by have := HC1.out.2.1; have := HLk.out.2; omega) (by have := HG3.out.lt; have := HG3.out.sz; simp; omega) ?_; intro v' w9 hown hgrow hiff; clear hiff; have HZ := Lib.hid (And.intro (FsOwn.snoc (HR3.out.alloc _) HC1.out.2.1 (fun i h1 h2 => (HA3.out i h1 h2).alloc _) (HF3.out.alloc _) hown hgrow) (And.intro ((HG3.out.i.below (below_one _ _)).own (HR3.out.alloc _) (by decide) (by omega) hgrow) (And.intro (box_own (HG3.out.x.below (below_one _ _)) (HR3.out.alloc _) (by omega) hgrow) (grown_row (grown_then HGG.out (grown_then HG3.out.g (grown_below (below_one _ _) _))) hgrow (fun g hg => by have := (HR3.out.lt g hg).1; omega))))); obtain ⟨pv', lv', cv', rfl⟩ := own_any hown; clear hown hgrow)
          clear hW3 k0 k1 k2 f0 f1 f2 y0 y1 y2
          go_roundw
          case rel => exact ⟨k + 1, by omega, by go_num, Lib.hid (by rw [HNk.out, HFa.out]; exact HZ.out)⟩
          case measure => simp [intOf]; omega
    · have hkn : k = n := by omega
      subst hkn
      obtain ⟨hF, hI, hX, hG⟩ := HG.out
      have HF := Lib.hid hF
      have HI := Lib.hid (And.intro hI hG)
      obtain ⟨pa, pl, pc, rfl⟩ := hF.any
      clear hF hI hX hG HG
      go_wp2_with fail
      go_ret
      exact ⟨⟨_, _, rfl, by omega, HF.out⟩, HI.out⟩
set_option maxRecDepth 100000
open Go.RowKit
set_option linter.unusedVariables false
/-- The error of getting, and what is got. -/
def getGE (S : Sc) (b : List Int) : Nat := if checkL S ≠ 0 then 1 else getBE b (mostsS S) S.is.length S.ns.length
def getGF (S : Sc) (b : List Int) : List Fa := if getGE S b = 0 then (rdB b (mostsS S) S.is.length S.ns.length).1 else []
theorem numB_err {b : List Int} (hb : Bt b) (h : (numB b).2.2 ≠ 0) : (numB b).1 = 0 := by
  unfold numB stU at h ⊢
  rw [if_pos rfl] at h ⊢
  simp only at h ⊢
  exact (uN_fit 200 (hb.drop 0)).2.2 h
theorem getBE_end {b : List Int} (hb : Bt b) (ms : List Int) (ni nn : Nat) (h : ¬ ((numB b).2.2 = 0 ∧ (numB b).1 = 0)) : getBE b ms ni nn = endE b (rdB b ms ni nn).2 := by
  unfold getBE
  by_cases he : (numB b).2.2 = 0
  · rw [if_neg (by omega), if_neg (by intro q; exact h ⟨he, q⟩)]
  · have e0 := numB_err hb he
    rw [if_pos he]
    unfold rdB
    rw [e0]
    show _ = endE b (numB b).2
    unfold endE
    rw [if_neg (by omega)]
theorem getBE_many {b : List Int} (ms : List Int) (ni nn : Nat) (h1 : (numB b).2.2 = 0) (h2 : (numB b).1 = 0) : getBE b ms ni nn = 3 := by
  unfold getBE
  rw [if_neg (by omega), if_pos h2]
theorem fault_st (w : World) (N : Nat) (b : List Int) (s : Nat × Nat) (h : InAt w N b s.1 s.2) (h9 : s.2 < 9) :
    Calls Tryz.prog 15 #[.pointer (some ⟨N, 0, none⟩)] w fun r w' => (∃ p : Int, r = .returned (.tuple #[.int .i64 p, .int .i64 s.2])) ∧ w = w' := by
  obtain ⟨p, e⟩ := s
  simp only at h h9
  by_cases he : e = 0
  · subst he
    refine (fault_ok w N b p h).mono ?_
    rintro r w' ⟨rfl, rfl⟩
    exact ⟨⟨0, rfl⟩, rfl⟩
  · refine (fault_err w N b p e h he h9).mono ?_
    rintro r w' ⟨rfl, rfl⟩
    exact ⟨⟨p, rfl⟩, rfl⟩
/-- What getting leaves. -/
def GotF (w w' : World) (S : Sc) (b : List Int) (r : Ending) : Prop := (∃ u, r = .returned (.tuple #[u, .int .i64 (getGE S b : Nat)]) ∧ Facts w' u (getGF S b)) ∧ Below w.heap.size w w'
theorem facts0 (w : World) : Facts w (.slice none 0 0) [] := ⟨none, 0, rfl, by simp, by simp, .inl rfl⟩
set_option maxHeartbeats 8000000 in
theorem fget_any (w : World) (D I M V v : Value) (S : Sc) (b : List Int) (h : Sch4 w D I M V S) (hw : SWf S) (hv : Ints .u8 w v b) (hb : Bt b) (hl : b.length ≤ 20000) :
    Calls Tryz.prog 6 #[SchV D I M V, v] w fun r w' => GotF w w' S b r := by
  have HB0 := Lib.hid (below_one w (SchO D I M V))
  have HX := Lib.hid (box_new w D I M V)
  have HC := Lib.hid (check_any (w.alloc (SchO D I M V)) D I M V S (h.below HB0.out) hw)
  have HNw := Lib.hid (fun w1 (hb1 : Below w.heap.size w w1) => newin_any v b w1 (hv.below hb1) hb hl)
  have hn0 := numB_val hb
  have hst : OkSt b (numB b).2 := stU_st hb _ ⟨Nat.zero_le _, by decide⟩
  have HU := Lib.hid (fun w1 N (hi : InAt w1 N b 0 0) => show Calls Tryz.prog 14 #[.pointer (some ⟨N, 0, none⟩), .int .u64 200] w1 fun r w' => r = .returned (.int .u64 (numB b).1) ∧ InAt w' N b (numB b).2.1 (numB b).2.2 ∧ w1.grownBy w' (some N) from inU_st w1 N b (0, 0) 200 hi (by decide))
  have HFt := Lib.hid (fun w1 N (hi : InAt w1 N b (numB b).2.1 (numB b).2.2) => fault_st w1 N b (numB b).2 hi hst.2)
  by_cases hc : checkL S = 0
  · have hcn := cnt_iff.1 (check_cnt' hc).1
    obtain ⟨n, hn⟩ : ∃ n : Nat, (numB b).1 = n := ⟨(numB b).1.toNat, by omega⟩
    have HGf := Lib.hid (fun w1 N (hb1 : Below w.heap.size w w1) (hN : w.heap.size ≤ N) (hi : InAt w1 N b (numB b).2.1 (numB b).2.2) => getFacts_any w w1 D I M V S N b (numB b).2 n h hb1 hN hi hst hb (by omega) (fun k hk => check_siz hc hk) (by omega))
    rw [show listK (fun _ s => rdFa b (mostsS S) S.is.length S.ns.length s) (numB b).2 n = rdB b (mostsS S) S.is.length S.ns.length by unfold rdB; rw [hn]; rfl] at HGf
    have hst2 := (rdB_st hb (mostsS S) S.is.length S.ns.length).1
    have HEn := Lib.hid (fun w1 N (hi : InAt w1 N b (rdB b (mostsS S) S.is.length S.ns.length).2.1 (rdB b (mostsS S) S.is.length S.ns.length).2.2) => end_st w1 N b (rdB b (mostsS S) S.is.length S.ns.length).2 hi hst2.2)
    have HE1 := Lib.hid (fun (h1 : ¬ ((numB b).2.2 = 0 ∧ (numB b).1 = 0)) => show getGE S b = endE b (rdB b (mostsS S) S.is.length S.ns.length).2 by unfold getGE; rw [if_neg (by omega)]; exact getBE_end hb _ _ _ h1)
    have HE2 := Lib.hid (fun (h1 : (numB b).2.2 = 0) (h2 : (numB b).1 = 0) => show getGE S b = 3 by unfold getGE; rw [if_neg (by omega)]; exact getBE_many _ _ _ h1 h2)
    have HG0 := Lib.hid (fun (h : getGE S b = 0) => show getGF S b = (rdB b (mostsS S) S.is.length S.ns.length).1 by unfold getGF; rw [if_pos h])
    have HG1 := Lib.hid (fun (h : getGE S b ≠ 0) => show getGF S b = [] by unfold getGF; rw [if_neg h])
    rw [hc] at HC
    unfold GotF
    rw [hn] at HE1 HE2 HU
    obtain ⟨⟨a, c, rfl⟩, ⟨a2, c2, rfl⟩, ⟨a3, c3, rfl⟩, a4, c4, rfl⟩ := h.slices
    obtain ⟨va, vc, rfl, -, -⟩ := hv
    generalize (rdB b (mostsS S) S.is.length S.ns.length).1 = rl at *
    generalize (rdB b (mostsS S) S.is.length S.ns.length).2 = rs at *
    generalize (numB b).2 = s0 at *
    generalize getGE S b = E at *
    generalize getGF S b = F at *
    clear h hw hb hl hc hn0 hst hst2 hcn hn
    go_enter Tryz.func6, Tryz.ntmps6
    go_wp2_with fail
    refine (HC.out).mono ?_; rintro r w1 ⟨rfl, hb1⟩
    have HB1 := Lib.hid (below_then HB0.out hb1)
    have HX1 := Lib.hid (HX.out.below hb1)
    clear hb1
    go_wp2_with fail
    refine (HNw.out _ HB1.out).mono ?_; rintro r w2 ⟨N, rfl, hN, hi, hb2⟩
    have HB2 := Lib.hid (below_then HB1.out hb2)
    have HX2 := Lib.hid (HX1.out.below hb2)
    have HI2 := Lib.hid hi
    have hwN : w.heap.size ≤ N := by have := HB1.out.size; omega
    have hwN2 : w.heap.size ≠ N := by have := HX1.out.lt; omega
    clear hi hb2
    go_wp2_with fail
    refine (HU.out _ _ HI2.out).mono ?_; rintro r w3 ⟨rfl, hi, hg⟩
    have HI3 := Lib.hid hi
    have HB3 := Lib.hid (below_grown HB2.out hg hwN)
    have HX3 := Lib.hid (HX2.out.grown hg hwN2)
    clear hi hg
    go_wp2_with fail
    refine (HFt.out _ _ HI3.out).mono ?_; rintro r w4 ⟨⟨p, rfl⟩, rfl⟩
    by_cases hq : s0.2 = 0 ∧ (n : Int) = 0
    · have hE := HE2.out hq.1 hq.2
      have hF := HG1.out (by omega)
      subst hE
      subst hF
      have q1 : ((s0.2 : Int) == 0) = true := by simp [hq.1]
      have q2 : ((n : Int) == 0) = true := by rw [hq.2]; rfl
      clear hq
      generalize (s0.2 : Int) = e0 at *
      go_wp2_with fail
      go_ret2
      exact ⟨⟨_, rfl, facts0 _⟩, HB3.out⟩
    · have hE := HE1.out hq
      obtain ⟨y0, y1, y2, y3⟩ := HX3.out.reads
      have hgd : ((s0.2 : Int) == 0) = false ∨ ((s0.2 : Int) == 0) = true ∧ ((n : Int) == 0) = false := by
        by_cases q1 : s0.2 = 0
        · right
          refine ⟨by simp [q1], ?_⟩
          rw [beq_eq_false_iff_ne]; intro q2; exact hq ⟨q1, q2⟩
        · left; rw [beq_eq_false_iff_ne]; omega
      clear hq
      have HGf3 := Lib.hid (HGf.out _ _ HB3.out hwN HI3.out)
      generalize (s0.2 : Int) = e0 at *
      rcases hgd with q1 | ⟨q1, q2⟩
      · go_wp2_with fail
        refine (HGf3.out).mono ?_; rintro r w5 ⟨⟨u, B, rfl, hNB, hf⟩, hi, hg⟩
        have HF5 := Lib.hid hf
        have HI5 := Lib.hid hi
        have HB5 := Lib.hid (below_grown HB3.out hg hwN)
        obtain ⟨ua, ul, uc, rfl⟩ := hf.any
        clear hf hi hg y0 y1 y2 y3
        go_wp2_with fail
        refine (HEn.out _ _ HI5.out).mono ?_; rintro r w6 ⟨rfl, hg⟩
        have HF6 := Lib.hid (HF5.out.far hg hNB).facts
        have HB6 := Lib.hid (below_grown HB5.out hg hwN)
        clear hg
        by_cases hz : endE b rs = 0
        · have hE0 : E = 0 := by rw [hE, hz]
          have hF := HG0.out hE0
          rw [hz]
          subst hE0
          subst hF
          clear hz hE
          go_wp2_with fail
          go_ret2
          exact ⟨⟨_, rfl, HF6.out⟩, HB6.out⟩
        · have hE1 : E ≠ 0 := by rw [hE]; exact hz
          have hF := HG1.out hE1
          subst hE
          subst hF
          have hz2 : ((endE b rs : Int) != 0) = true := by simp; omega
          clear hz hE1
          go_wp2_with fail
          go_ret2
          exact ⟨⟨_, rfl, facts0 _⟩, HB6.out⟩
      · go_wp2_with fail
        refine (HGf3.out).mono ?_; rintro r w5 ⟨⟨u, B, rfl, hNB, hf⟩, hi, hg⟩
        have HF5 := Lib.hid hf
        have HI5 := Lib.hid hi
        have HB5 := Lib.hid (below_grown HB3.out hg hwN)
        obtain ⟨ua, ul, uc, rfl⟩ := hf.any
        clear hf hi hg y0 y1 y2 y3
        go_wp2_with fail
        refine (HEn.out _ _ HI5.out).mono ?_; rintro r w6 ⟨rfl, hg⟩
        have HF6 := Lib.hid (HF5.out.far hg hNB).facts
        have HB6 := Lib.hid (below_grown HB5.out hg hwN)
        clear hg
        by_cases hz : endE b rs = 0
        · have hE0 : E = 0 := by rw [hE, hz]
          have hF := HG0.out hE0
          rw [hz]
          subst hE0
          subst hF
          clear hz hE
          go_wp2_with fail
          go_ret2
          exact ⟨⟨_, rfl, HF6.out⟩, HB6.out⟩
        · have hE1 : E ≠ 0 := by rw [hE]; exact hz
          have hF := HG1.out hE1
          subst hE
          subst hF
          have hz2 : ((endE b rs : Int) != 0) = true := by simp; omega
          clear hz hE1
          go_wp2_with fail
          go_ret2
          exact ⟨⟨_, rfl, facts0 _⟩, HB6.out⟩
  · have e1 : getGE S b = 1 := by unfold getGE; rw [if_pos hc]
    have e2 : getGF S b = [] := by unfold getGF; rw [if_neg (by omega)]
    unfold GotF
    rw [e1, e2]
    have hc2 : ((checkL S : Int) != 0) = true := by simp; omega
    obtain ⟨⟨a, c, rfl⟩, ⟨a2, c2, rfl⟩, ⟨a3, c3, rfl⟩, a4, c4, rfl⟩ := h.slices
    obtain ⟨va, vc, rfl, -, -⟩ := hv
    generalize (checkL S : Int) = ck at *
    clear h hw hb hl hc e1 e2 HNw HU HFt hn0 hst
    go_enter Tryz.func6, Tryz.ntmps6
    go_wp2_with fail
    refine (HC.out).mono ?_; rintro r w1 ⟨rfl, hb1⟩
    have HB1 := Lib.hid (below_then HB0.out hb1)
    clear hb1
    go_wp2_with fail
    go_ret2
    exact ⟨⟨_, rfl, facts0 _⟩, HB1.out⟩
set_option maxRecDepth 100000
open Go.RowKit
set_option linter.unusedVariables false
theorem flat_bt {α : Type} {e : α → List Int} : ∀ {l : List α}, (∀ x ∈ l, Bt (e x)) → Bt (l.flatMap e)
  | [], _ => bt_nil
  | x :: l, h => by
    rw [List.flatMap_cons]
    exact (h x (List.mem_cons_self ..)).append (flat_bt fun y hy => h y (List.mem_cons_of_mem _ hy))
theorem Small.bt {f : Fa} (h : Small f) : Bt (encFa f) := by
  unfold encFa
  refine ((flat_bt fun x hx => ?_).append (flat_bt fun x hx => ?_)).append (flat_bt fun x hx => ?_)
  · have := h.c x hx
    exact encU_bt (by omega)
  · exact encI_bt (h.wf.i x hx).1 (h.wf.i x hx).2
  · exact bigN_bt _ _
theorem encFs_bt {l : List Fa} (hs : ∀ f ∈ l, Small f) (hl : l.length ≤ 200) : Bt (encFs l) ∧ (encFs l).length ≤ 20000 := by
  have h1 := (encU_len (x := l.length) (by omega)).2
  have h2 := flat_max' (e := encFa) (l := l) (fun x hx => (hs x hx).le)
  unfold encFs
  refine ⟨(encU_bt (by omega)).append (flat_bt fun x hx => (hs x hx).bt), ?_⟩
  rw [List.length_append]
  omega
theorem FaWf.norm {f : Fa} (h : FaWf f) : FaWf (normF f) := by
  refine ⟨h.c, h.i, fun x hx => ?_, ?_⟩
  · obtain ⟨y, hy, rfl⟩ := List.mem_map.1 hx
    exact (keyed_from (keyed_key (h.n y hy))).1
  · refine ⟨h.l.1, h.l.2.1, ?_⟩
    show (f.ns.map _).length ≤ _
    rw [List.length_map]
    exact h.l.2.2
theorem put_got {S : Sc} {l : List Fa} (hf : ∀ f ∈ l, FaWf f) (h : (batchL S l).2 = 0) : (∀ f ∈ l, Small f) ∧ l.length ≤ 200 ∧ getGE S (encFs l) = 0 ∧ getGF S (encFs l) = l.map normF ∧ sameFs l (l.map normF) = true ∧ ∀ f ∈ l.map normF, FaWf f := by
  obtain ⟨hc, hl1, hl2, hfs⟩ := batch_ok h
  have h1 := rdB_fwd (ms := mostsS S) (ni := S.is.length) (nn := S.ns.length) hl1 hl2 (fun f hm => fit_of_fits hc (hf f hm).i (hf f hm).n (hfs f hm))
  have h2 : getGE S (encFs l) = 0 := by unfold getGE; rw [if_neg (by omega)]; exact h1.1
  refine ⟨fun f hm => small_of hc (hf f hm) (hfs f hm), hl2, h2, ?_, same_norm (fun f hm => (hf f hm).n), fun f hm => ?_⟩
  · unfold getGF; rw [if_pos h2]; exact h1.2
  · obtain ⟨g, hg, rfl⟩ := List.mem_map.1 hm
    exact (hf g hg).norm
end Go.Proofs.YtdnbjaeeebodkaaGreat
