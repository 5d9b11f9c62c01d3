/- A reader is made; what the reader's functions find. -/
import Derived.Test.YtdlebcjkokabjaaBufb
namespace Go.Proofs.Ytdlebcjkokabjaa
set_option maxRecDepth 100000
open Go.RowKit
set_option linter.unusedVariables false
theorem BytesP.ints {w w' : World} {l : List Int} {e : Ending} (h : BytesP w l e w') : ∃ v, e = .returned v ∧ Ints .u8 w' v l ∧ Typed 5 w' v ∧ Below w.heap.size w w' := by
  obtain ⟨⟨v, rfl, ho⟩, hb⟩ := h
  exact ⟨v, rfl, Ints.own ho, Typed.own ho, hb⟩
theorem own_lit0 (w : World) : BOwn (w.alloc (.cells #[] 5)) w.heap.size (.slice (some ⟨w.heap.size, 0, none⟩) 0 0) [] :=
  ⟨by simp, .inr ⟨w.heap.size, 0, _, rfl, Nat.le_refl _, heap_alloc_new w _, by simp, by decide, by simp, by simp⟩⟩
theorem clone_any (v : Value) (l : List Int) (w : World) (hv : Ints .u8 w v l) (hl : l.length ≤ 20000) : Calls Try.prog 66 #[v] w (BytesP w l) := by
  obtain ⟨i0, hi, hz0, hz1, hz2⟩ := info_parts Try.infoU8
  have HV := Lib.hid hv
  obtain ⟨a, cap, rfl, hcap, ha⟩ := hv
  cases a with
  | none =>
    have hn : l = [] := by
      rcases ha with h | ⟨b, off, h, _⟩
      · exact h
      · cases h
    subst hn
    have hop := fun w => Lib.run_eql_slice_nil (P := Try.prog) w 42 5 none 0 cap 0 0 Try.underlying42
    go_enter Try.func66, Try.ntmps66
    go_wp2_with fail
    go_ret
    exact ⟨⟨_, rfl, own0 w _⟩, Below.refl _ _⟩
  | some ad =>
    clear ha
    have hop := fun w => Lib.run_eql_slice_nil (P := Try.prog) w 42 5 (some ad) l.length cap 0 0 Try.underlying42
    have HB := Lib.hid (below_one w (.cells #[] 5))
    go_enter Try.func66, Try.ntmps66
    go_wp2_with (at_builtin; refine wpList_append_want _ (by rfl) _ _ 42 rfl w.heap.size 5 i0 (.int .u8 0) 1 Try.underlying42 hi hz0 hz1 hz2 rfl .u8 _ _ [] l rfl rfl (own_lit0 w) (HV.out.below HB.out) (by unfold maxLen; simp; omega) (by simp; omega) (by simp) ?_; intro v' w1 hown hgrow; have HQ := Lib.hid (And.intro hown (HB.out.grown hgrow (by simp) (fun k hk => by have e : w.heap.size = k := Option.some.inj hk; omega))); obtain ⟨pv', lv', cv', rfl⟩ := own_slice3 hown; clear hown hgrow)
    go_ret
    exact ⟨⟨_, rfl, HQ.out.1⟩, HQ.out.2⟩
theorem new_in (w : World) (v : Value) (l : List Int) (N : Nat) (hN : w.heap.size = N) (hv : Ints .u8 w v l) (ht : Typed 5 w v) (hb : Bt l) (hl : l.length ≤ 20000) :
    InAt (w.alloc (.cells #[v, .int .i64 0, .int .i64 0, .bool true] 106)) N l 0 0 := by
  subst hN
  have := below_one w (.cells #[v, .int .i64 0, .int .i64 0, .bool true] 106)
  exact ⟨v, heap_alloc_new w _, hv.below this, ht.below this, hb, hl, Nat.zero_le _⟩
theorem newin_any (v : Value) (l : List Int) (w : World) (hv : Ints .u8 w v l) (hb : Bt l) (hl : l.length ≤ 20000) :
    Calls Try.prog 46 #[v] w fun r w' => ∃ N, r = .returned (.pointer (some ⟨N, 0, none⟩)) ∧ w.heap.size ≤ N ∧ InAt w' N l 0 0 ∧ Below w.heap.size w w' := by
  have HC := Lib.hid (clone_any v l w hv hl)
  obtain ⟨a, cap, rfl, -, -⟩ := hv
  go_enter Try.func46, Try.ntmps46
  go_wp2_with fail
  refine (HC.out).mono ?_; intro r w1 hr
  obtain ⟨v', rfl, h1, h2, h3⟩ := hr.ints
  have HI := Lib.hid (new_in w1 v' l _ rfl h1 h2 hb hl)
  have HB := Lib.hid (And.intro h3.size (below_then h3 (below_one w1 (.cells #[v', .int .i64 0, .int .i64 0, .bool true] 106))))
  obtain ⟨pa, pc, rfl, -, -⟩ := h1
  clear h2 h3 hr
  go_wp2_with fail
  go_ret
  exact ⟨_, rfl, HB.out.1, HI.out, HB.out.2⟩
theorem cell_on {w w' : World} {p : Addr} {v : Value} (hb : Below w.heap.size w w') (h : w.cell? p = some v) : w'.cell? p = some v := by
  rw [hb.cell (World.block_lt_of_cell? w p h)]; exact h
theorem cU_any (v : Value) (b : List Int) (most : Int) (M : Nat) (w : World) (hv : Ints .u8 w v b) (hb : Bt b) (hl : b.length ≤ 20000) (hM : w.cell? ⟨M, 0, none⟩ = some (.int .u64 most)) :
    Calls Try.prog 88 #[v, .pointer (some ⟨M, 0, none⟩)] w fun r w' => r = .returned (trip (uN most (getU b))) ∧ Below w.heap.size w w' := by
  have HU := Lib.hid (pgetU_any v b w hv hb (by omega))
  obtain ⟨a, cap, rfl, -, -⟩ := hv
  generalize getU b = rr at *
  obtain ⟨x, n, e⟩ := rr
  unfold trip at HU
  simp only at HU
  have HM := Lib.hid hM
  by_cases he : e = 0
  · subst he
    by_cases hm : most < x
    · go_enter Try.func88, Try.ntmps88
      go_wp2_with fail
      refine (HU.out).mono ?_; rintro r w1 ⟨rfl, h1⟩
      have HB := Lib.hid h1
      have hc := cell_on h1 HM.out
      clear h1
      go_wp2_with fail
      exact bodyPost_ret (v := .tuple #[.int .u64 0, .int .i64 0, .int .i64 2]) (by simp [results, Try.results88, go_sem]) rfl ⟨by unfold uN; rw [if_pos ⟨rfl, hm⟩]; rfl, HB.out⟩
    · go_enter Try.func88, Try.ntmps88
      go_wp2_with fail
      refine (HU.out).mono ?_; rintro r w1 ⟨rfl, h1⟩
      have HB := Lib.hid h1
      have hc := cell_on h1 HM.out
      clear h1
      go_wp2_with fail
      exact bodyPost_ret (v := .tuple #[.int .u64 x, .int .i64 n, .int .i64 0]) (by simp [results, Try.results88, go_sem]) rfl ⟨by unfold uN; rw [if_neg (fun h => absurd h.2 (Int.not_lt.2 hm))]; rfl, HB.out⟩
  · have h0 : ((e : Int) == 0) = false := by simp; omega
    go_enter Try.func88, Try.ntmps88
    go_wp2_with fail
    refine (HU.out).mono ?_; rintro r w1 ⟨rfl, h1⟩
    have HB := Lib.hid h1
    clear h1
    go_wp2_with fail
    exact bodyPost_ret (v := .tuple #[.int .u64 x, .int .i64 n, .int .i64 e]) (by simp [results, Try.results88, go_sem]) rfl ⟨by unfold uN; rw [if_neg (fun h => he h.1)]; rfl, HB.out⟩
theorem cT_any (v : Value) (b : List Int) (most : Int) (M : Nat) (w : World) (hv : Ints .u8 w v b) (hb : Bt b) (hl : b.length ≤ 20000) (hM : w.cell? ⟨M, 0, none⟩ = some (.int .i64 most)) :
    Calls Try.prog 85 #[v, .pointer (some ⟨M, 0, none⟩)] w fun r w' => r = .returned (tripT (tN most (getT b [] 0))) ∧ Below w.heap.size w w' := by
  have HU := Lib.hid (pgetT_any v b w hv hb (by omega))
  obtain ⟨a, cap, rfl, -, -⟩ := hv
  generalize getT b [] 0 = rr at *
  obtain ⟨x, n, e⟩ := rr
  unfold tripT at HU
  simp only at HU
  have HM := Lib.hid hM
  have hs := strB_size x
  have HS := Lib.hid (show strB [] = ⟨#[]⟩ from rfl)
  by_cases he : e = 0
  · subst he
    by_cases hm : max most 0 < (x.length : Int)
    · have hm' : max most 0 < ((strB x).size : Int) := by rw [hs]; exact hm
      generalize strB x = S at *
      go_enter Try.func85, Try.ntmps85
      go_wp2_with fail
      refine (HU.out).mono ?_; rintro r w1 ⟨rfl, h1⟩
      have HB := Lib.hid h1
      have hc := cell_on h1 HM.out
      clear h1
      go_wp2_with fail
      exact bodyPost_ret (v := .tuple #[.string ⟨#[]⟩, .int .i64 0, .int .i64 4]) (by simp [results, Try.results85, go_sem]) rfl ⟨by unfold tN; rw [if_pos ⟨rfl, hm⟩]; rfl, HB.out⟩
    · have hm' : ¬ max most 0 < ((strB x).size : Int) := by rw [hs]; exact hm
      obtain ⟨S, hS⟩ : ∃ S, strB x = S := ⟨_, rfl⟩
      have HS2 := Lib.hid hS
      rw [hS] at HU hm'
      clear hS hs
      go_enter Try.func85, Try.ntmps85
      go_wp2_with fail
      refine (HU.out).mono ?_; rintro r w1 ⟨rfl, h1⟩
      have HB := Lib.hid h1
      have hc := cell_on h1 HM.out
      clear h1
      go_wp2_with fail
      exact bodyPost_ret (v := .tuple #[.string S, .int .i64 n, .int .i64 0]) (by simp [results, Try.results85, go_sem]) rfl ⟨by unfold tN tripT; rw [if_neg (fun h => absurd h.2 (Int.not_lt.2 hm)), HS2.out]; rfl, HB.out⟩
  · have h0 : ((e : Int) == 0) = false := by simp; omega
    obtain ⟨S, hS⟩ : ∃ S, strB x = S := ⟨_, rfl⟩
    have HS2 := Lib.hid hS
    rw [hS] at HU
    clear hS hs
    go_enter Try.func85, Try.ntmps85
    go_wp2_with fail
    refine (HU.out).mono ?_; rintro r w1 ⟨rfl, h1⟩
    have HB := Lib.hid h1
    clear h1
    go_wp2_with fail
    exact bodyPost_ret (v := .tuple #[.string S, .int .i64 n, .int .i64 e]) (by simp [results, Try.results85, go_sem]) rfl ⟨by unfold tN tripT; rw [if_neg (fun h => he h.1), HS2.out], HB.out⟩
end Go.Proofs.Ytdlebcjkokabjaa
