/- Layer 12: the program's Get: numbers are read. -/
import Derived.Test.YtdnbjaeeebodkaaFacg
import Derived.Test.YtdnbjaeeebodkaaScht
namespace Go.Proofs.Ytdnbjaeeebodkaa
set_option maxRecDepth 100000
open Go.RowKit
set_option linter.unusedVariables false
theorem Try.infoI64f : (Try.prog.info? 2).map (fun i => (i.zero, i.size, i.bytes)) = some (some (.int .i64 0), 1, 8) := by kernel_rfl
theorem Try.infoIntf : (Try.prog.info? 3).map (fun i => (i.zero, i.size, i.bytes)) = some (some (.int .i64 0), 1, 8) := by kernel_rfl
theorem Try.infoF64f : (Try.prog.info? 65).map (fun i => (i.zero, i.size, i.bytes)) = some (some (.float .f64 0), 1, 8) := by kernel_rfl
theorem Try.infoFact : (Try.prog.info? 42).map (fun i => (i.zero, i.size, i.bytes)) = some (some (.agg #[.slice none 0 0, .slice none 0 0, .slice none 0 0]), 3, 72) := by kernel_rfl
theorem zcells_int : (Value.int .i64 0).cells.size = 1 := by simp [Value.cells]
theorem zcells_flo : (Value.float .f64 0).cells.size = 1 := by simp [Value.cells]
theorem zcells_fact : (Value.agg #[.slice none 0 0, .slice none 0 0, .slice none 0 0]).cells.size = 3 := by simp [Value.cells]
theorem one_cells (w : World) (x : Value) (T : TypeId) : ∀ j u, [x][j]? = some u → (w.alloc (.cells #[x] T)).cell? ((⟨w.heap.size, 0, none⟩ : Addr).add j) = some u := by
  intro j u hj
  have hl := (List.getElem?_eq_some_iff.1 hj).1
  have hl2 : j < 1 := hl
  obtain rfl : j = 0 := by omega
  simpa [Addr.add, go_sem] using hj
theorem three_cells (w : World) (x y z : Value) (T : TypeId) : ∀ j u, [x, y, z][j]? = some u → (w.alloc (.cells #[x, y, z] T)).cell? ((⟨w.heap.size, 0, none⟩ : Addr).add j) = some u := by
  intro j u hj
  have hl := (List.getElem?_eq_some_iff.1 hj).1
  have hl2 : j < 3 := hl
  rcases (by omega : j = 0 ∨ j = 1 ∨ j = 2) with rfl | rfl | rfl
  · simpa [Addr.add, go_sem] using hj
  · simpa [Addr.add, go_sem] using hj
  · simpa [Addr.add, go_sem] using hj
/-- Rows of the call's own: integers (a type), floats. -/
abbrev LOwn (E : TypeId) (w : World) (B : Nat) (v : Value) (l : List Int) : Prop := w.ownsRow B E 1 v l.length (l.map (Value.int .i64))
abbrev NOwn (w : World) (B : Nat) (v : Value) (l : List Nat) : Prop := w.ownsRow B 65 1 v l.length (l.map (Value.float .f64))
theorem lown0 (E : TypeId) (w : World) (B : Nat) : LOwn E w B (.slice none 0 0) [] := ⟨by simp, .inl ⟨rfl, rfl⟩⟩
theorem nown0 (w : World) (B : Nat) : NOwn w B (.slice none 0 0) [] := ⟨by simp, .inl ⟨rfl, rfl⟩⟩
theorem lown_snoc {E : TypeId} {w : World} {B : Nat} {v : Value} {q : List Int} {x : Int} (h : w.ownsRow B E 1 v (q.length + 1) (q.map (Value.int .i64) ++ [.int .i64 x])) : LOwn E w B v (q ++ [x]) := by
  unfold LOwn
  rw [List.length_append, List.map_append]
  exact h
theorem nown_snoc {w : World} {B : Nat} {v : Value} {q : List Nat} {x : Nat} (h : w.ownsRow B 65 1 v (q.length + 1) (q.map (Value.float .f64) ++ [.float .f64 x])) : NOwn w B v (q ++ [x]) := by
  unfold NOwn
  rw [List.length_append, List.map_append]
  exact h
theorem Fls.own {w : World} {B : Nat} {v : Value} {l : List Nat} (h : NOwn w B v l) : Fls w v l := by
  obtain ⟨hl, h⟩ := h
  rcases h with ⟨rfl, h0⟩ | ⟨g, cap, cur, rfl, _, hb, hnc, hm, hs, ht⟩
  · have : l = [] := List.length_eq_zero_iff.1 h0
    subst this
    exact ⟨none, 0, rfl, by simp, .inl rfl⟩
  · refine ⟨_, cap, rfl, by omega, .inr ⟨g, 0, rfl, (Array.getElem?_eq_some_iff.1 hb).1, fun i hi => ?_⟩⟩
    have e : (l.map (Value.float .f64))[i]? = some (.float .f64 (l.getD i 0)) := by simp [List.getD, hi]
    rw [← ht, List.getElem?_take, if_pos (by omega)] at e
    rw [Nat.zero_add, cell_of_row _ _ i _ _ (0, 0) hb]
    simpa using e
theorem inI_st (w : World) (N : Nat) (b : List Int) (s : Nat × Nat) (h : InAt w N b s.1 s.2) (h9 : s.2 < 9) :
    Calls Try.prog 73 #[.pointer (some ⟨N, 0, none⟩)] w fun r w' => r = .returned (.int .i64 (stI b s).1) ∧ InAt w' N b (stI b s).2.1 (stI b s).2.2 ∧ w.grownBy w' (some N) := by
  obtain ⟨p, e⟩ := s
  simp only at h h9
  unfold stI
  by_cases he : e = 0
  · subst he
    rw [if_pos rfl]
    refine (inI_any w N b p h).mono ?_
    rintro r w' ⟨⟨v, rfl, rfl⟩, h2, h3⟩
    exact ⟨rfl, h2, h3⟩
  · rw [if_neg he]
    refine (inI_shut w _ e (h.shut he (by omega))).mono ?_
    rintro r w' ⟨rfl, hb⟩
    exact ⟨rfl, h.below hb, grown_below hb _⟩
theorem inF_st (w : World) (N : Nat) (b : List Int) (s : Nat × Nat) (h : InAt w N b s.1 s.2) (h9 : s.2 < 9) :
    Calls Try.prog 75 #[.pointer (some ⟨N, 0, none⟩)] w fun r w' => r = .returned (.float .f64 (stF b s).1) ∧ InAt w' N b (stF b s).2.1 (stF b s).2.2 ∧ w.grownBy w' (some N) := by
  obtain ⟨p, e⟩ := s
  simp only at h h9
  unfold stF
  by_cases he : e = 0
  · subst he
    rw [if_pos rfl]
    refine (inF_any w N b p h).mono ?_
    rintro r w' ⟨⟨v, rfl, rfl⟩, h2, h3⟩
    simp only
    unfold fN at *
    by_cases q : (getF (b.drop p)).2 = 0
    · rw [if_pos q] at h2 ⊢
      simp only [if_true] at h2 ⊢
      rw [if_pos q, if_pos q, q]
      exact ⟨rfl, h2, h3⟩
    · rw [if_neg q] at h2 ⊢
      simp only [if_neg q] at h2 ⊢
      exact ⟨True.intro, h2, h3⟩
  · rw [if_neg he]
    refine (inF_shut w _ e (h.shut he (by omega))).mono ?_
    rintro r w' ⟨rfl, hb⟩
    exact ⟨rfl, h.below hb, grown_below hb _⟩
set_option maxHeartbeats 4000000 in
theorem readI2_any (w : World) (N : Nat) (b : List Int) (s : Nat × Nat) (n : Nat) (hn : n ≤ 20) (h : InAt w N b s.1 s.2) (hs : OkSt b s) :
    Calls Try.prog 72 #[.int .i64 n, .func (.func 73) #[.pointer (some ⟨N, 0, none⟩)] #[]] w fun r w' => (∃ v, r = .returned v ∧ LOwn 2 w' w.heap.size v (rdI2 b n s).1) ∧ InAt w' N b (rdI2 b n s).2.1 (rdI2 b n s).2.2 ∧ w.grownBy w' (some N) := by
  obtain ⟨i0, hi, hz0, hz1, hz2⟩ := info_parts Try.infoI64f
  have hNl := h.lt
  unfold rdI2
  have HKs := Lib.hid (fun k => listK_st (rd := fun _ s => stI b s) (P := OkSt b) (fun _ _ h => stI_st h) hs k)
  have HR := Lib.hid (fun w1 k (h : InAt w1 N b (listK (fun _ s => stI b s) s k).2.1 (listK (fun _ s => stI b s) s k).2.2) => inI_st w1 N b (listK (fun _ s => stI b s) s k).2 h (listK_st (rd := fun _ s => stI b s) (P := OkSt b) (fun _ _ h => stI_st h) hs k).1.2)
  have HN := Lib.hid (fun k => show listK (fun _ s => stI b s) s (k + 1) = ((listK (fun _ s => stI b s) s k).1 ++ [(stI b (listK (fun _ s => stI b s) s k).2).1], (stI b (listK (fun _ s => stI b s) s k).2).2) from rfl)
  have HI := Lib.hid h
  clear h hs
  go_enter Try.func72, Try.ntmps72
  go_wp2_with fail
  go_loopw [5, 7] (fun lv i wr => ∃ k : Nat, k ≤ n ∧ i = .int .i64 k ∧ Hid (LOwn 2 wr w.heap.size lv (listK (fun _ s => stI b s) s k).1 ∧ InAt wr N b (listK (fun _ s => stI b s) s k).2.1 (listK (fun _ s => stI b s) s k).2.2 ∧ w.grownBy wr (some N))) (fun _ i _ => n - (intOf i).toNat)
  case atStart => exact ⟨0, Nat.zero_le _, rfl, Lib.hid ⟨lown0 _ _ _, HI.out, grown_below (Below.refl _ _) _⟩⟩
  case round =>
    obtain ⟨k, hk, rfl, HS⟩ := hrel
    by_cases hlk : k < n
    · have hlk' : (k : Int) < (n : Int) := by omega
      have HRk := Lib.hid (HR.out wr k HS.out.2.1)
      have HNk := Lib.hid (HN.out k)
      have HLk := Lib.hid (HKs.out k).2
      generalize (stI b (listK (fun _ s => stI b s) s k).2).1 = x at *
      generalize (stI b (listK (fun _ s => stI b s) s k).2).2 = s2 at *
      obtain ⟨q, hq⟩ : ∃ q, (listK (fun _ s => stI b s) s k).1 = q := ⟨_, rfl⟩
      rw [hq] at HNk HLk HS
      obtain ⟨pa, pl, pc, rfl⟩ := own_any HS.out.1
      clear hq
      go_wp2_with fail
      refine (HRk.out).mono ?_; rintro r w2 ⟨rfl, hi2, hg2⟩
      have HO2 := Lib.hid (own_far HS.out.1 hg2 hNl)
      have HI2 := Lib.hid (And.intro hi2 (grown_then HS.out.2.2 hg2))
      have hsz := HI2.out.2.size
      clear hi2 hg2
      go_wp2_with (at_builtin; refine wpList_append_own _ rfl _ _ 39 rfl w.heap.size 2 i0 (.int .i64 0) 1 8 Try.underlying39 hi hz0 hz1 hz2 zcells_int (by decide) _ _ (q.map (Value.int .i64)) rfl (HO2.out.alloc _) ⟨w2.heap.size, 0, none⟩ 1 1 [Value.int .i64 x] rfl rfl (one_cells w2 (Value.int .i64 x) 2) (by intro u hu; simp at hu; rcases hu with rfl; rfl) (by have := HLk.out; unfold maxLen; omega) (by have := HLk.out; omega) (by simp; omega) ?_; intro v' w3 hown hgrow hiff; clear hiff; have hown := lown_snoc hown; have HQ := Lib.hid (And.intro hown (And.intro ((HI2.out.1.below (below_one _ _)).own (HO2.out.alloc _) (by decide) hNl hgrow) (grown_row (grown_then HI2.out.2 (grown_below (below_one _ _) _)) hgrow (fun g hg => (HO2.out.lt g hg).1)))); obtain ⟨pv', lv', cv', rfl⟩ := own_any hown; clear hown hgrow)
      go_roundw
      case rel => exact ⟨k + 1, by omega, by go_num, Lib.hid ⟨by rw [HNk.out]; exact HQ.out.1, by rw [HNk.out]; exact HQ.out.2.1, HQ.out.2.2⟩⟩
      case measure => simp [intOf]; omega
    · have hkn : k = n := by omega
      subst hkn
      obtain ⟨pa, pl, pc, rfl⟩ := own_any HS.out.1
      go_wp2_with fail
      go_ret
      exact ⟨⟨_, rfl, HS.out.1⟩, HS.out.2⟩
set_option maxHeartbeats 4000000 in
theorem readN2_any (w : World) (N : Nat) (b : List Int) (s : Nat × Nat) (n : Nat) (hn : n ≤ 20) (h : InAt w N b s.1 s.2) (hs : OkSt b s) :
    Calls Try.prog 74 #[.int .i64 n, .func (.func 75) #[.pointer (some ⟨N, 0, none⟩)] #[]] w fun r w' => (∃ v, r = .returned v ∧ NOwn w' w.heap.size v (rdN2 b n s).1) ∧ InAt w' N b (rdN2 b n s).2.1 (rdN2 b n s).2.2 ∧ w.grownBy w' (some N) := by
  obtain ⟨i0, hi, hz0, hz1, hz2⟩ := info_parts Try.infoF64f
  have hNl := h.lt
  unfold rdN2
  have HKs := Lib.hid (fun k => listK_st (rd := fun _ s => stF b s) (P := OkSt b) (fun _ _ h => stF_st h) hs k)
  have HR := Lib.hid (fun w1 k (h : InAt w1 N b (listK (fun _ s => stF b s) s k).2.1 (listK (fun _ s => stF b s) s k).2.2) => inF_st w1 N b (listK (fun _ s => stF b s) s k).2 h (listK_st (rd := fun _ s => stF b s) (P := OkSt b) (fun _ _ h => stF_st h) hs k).1.2)
  have HN := Lib.hid (fun k => show listK (fun _ s => stF b s) s (k + 1) = ((listK (fun _ s => stF b s) s k).1 ++ [(stF b (listK (fun _ s => stF b s) s k).2).1], (stF b (listK (fun _ s => stF b s) s k).2).2) from rfl)
  have HI := Lib.hid h
  clear h hs
  go_enter Try.func74, Try.ntmps74
  go_wp2_with fail
  go_loopw [5, 7] (fun lv i wr => ∃ k : Nat, k ≤ n ∧ i = .int .i64 k ∧ Hid (NOwn wr w.heap.size lv (listK (fun _ s => stF b s) s k).1 ∧ InAt wr N b (listK (fun _ s => stF b s) s k).2.1 (listK (fun _ s => stF b s) s k).2.2 ∧ w.grownBy wr (some N))) (fun _ i _ => n - (intOf i).toNat)
  case atStart => exact ⟨0, Nat.zero_le _, rfl, Lib.hid ⟨nown0 _ _, HI.out, grown_below (Below.refl _ _) _⟩⟩
  case round =>
    obtain ⟨k, hk, rfl, HS⟩ := hrel
    by_cases hlk : k < n
    · have hlk' : (k : Int) < (n : Int) := by omega
      have HRk := Lib.hid (HR.out wr k HS.out.2.1)
      have HNk := Lib.hid (HN.out k)
      have HLk := Lib.hid (HKs.out k).2
      generalize (stF b (listK (fun _ s => stF b s) s k).2).1 = x at *
      generalize (stF b (listK (fun _ s => stF b s) s k).2).2 = s2 at *
      obtain ⟨q, hq⟩ : ∃ q, (listK (fun _ s => stF b s) s k).1 = q := ⟨_, rfl⟩
      rw [hq] at HNk HLk HS
      obtain ⟨pa, pl, pc, rfl⟩ := own_any HS.out.1
      clear hq
      go_wp2_with fail
      refine (HRk.out).mono ?_; rintro r w2 ⟨rfl, hi2, hg2⟩
      have HO2 := Lib.hid (own_far HS.out.1 hg2 hNl)
      have HI2 := Lib.hid (And.intro hi2 (grown_then HS.out.2.2 hg2))
      have hsz := HI2.out.2.size
      clear hi2 hg2
      go_wp2_with (at_builtin; refine wpList_append_own _ rfl _ _ 40 rfl w.heap.size 65 i0 (.float .f64 0) 1 8 Try.underlying40 hi hz0 hz1 hz2 zcells_flo (by decide) _ _ (q.map (Value.float .f64)) rfl (HO2.out.alloc _) ⟨w2.heap.size, 0, none⟩ 1 1 [Value.float .f64 x] rfl rfl (one_cells w2 (Value.float .f64 x) 65) (by intro u hu; simp at hu; rcases hu with rfl; rfl) (by have := HLk.out; unfold maxLen; omega) (by have := HLk.out; omega) (by simp; omega) ?_; intro v' w3 hown hgrow hiff; clear hiff; have hown := nown_snoc hown; have HQ := Lib.hid (And.intro hown (And.intro ((HI2.out.1.below (below_one _ _)).own (HO2.out.alloc _) (by decide) hNl hgrow) (grown_row (grown_then HI2.out.2 (grown_below (below_one _ _) _)) hgrow (fun g hg => (HO2.out.lt g hg).1)))); obtain ⟨pv', lv', cv', rfl⟩ := own_any hown; clear hown hgrow)
      go_roundw
      case rel => exact ⟨k + 1, by omega, by go_num, Lib.hid ⟨by rw [HNk.out]; exact HQ.out.1, by rw [HNk.out]; exact HQ.out.2.1, HQ.out.2.2⟩⟩
      case measure => simp [intOf]; omega
    · have hkn : k = n := by omega
      subst hkn
      obtain ⟨pa, pl, pc, rfl⟩ := own_any HS.out.1
      go_wp2_with fail
      go_ret
      exact ⟨⟨_, rfl, HS.out.1⟩, HS.out.2⟩
end Go.Proofs.Ytdnbjaeeebodkaa
