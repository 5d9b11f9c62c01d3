/- Layer 11: slices.Grow and slices.Concat, of texts and of sets. -/
import Derived.Test.YtdlebcjkokabjaaSchc
namespace Go.Proofs.Ytdlebcjkokabjaa
set_option maxRecDepth 100000
open Go.RowKit
set_option linter.unusedVariables false
/-- A slice of slices: the k-th one reads as the k-th list. -/
def RowsOf {α : Type} (R : World → Value → List α → Prop) (w : World) (v : Value) (L : List (List α)) : Prop := ∃ b, v = .slice (some ⟨b, 0, none⟩) L.length L.length ∧ b < w.heap.size ∧ ∀ k, k < L.length → ∃ u, w.cell? ⟨b, k, none⟩ = some u ∧ R w u (L.getD k [])
theorem flat_next {α : Type} {L : List (List α)} {k : Nat} (hk : k < L.length) : (L.take (k + 1)).flatten = (L.take k).flatten ++ L.getD k [] := by
  rw [List.take_add_one, List.getElem?_eq_getElem hk, List.flatten_append]
  simp [List.getD, hk]
theorem flat_le {α : Type} (L : List (List α)) (k : Nat) : (L.take k).flatten.length ≤ L.flatten.length := by
  conv => rhs; rw [← List.take_append_drop k L, List.flatten_append, List.length_append]
  omega
theorem own_zeros (w : World) (z : Value) (n : Nat) (E : TypeId) (hz : z.cells.size = 1) (hm : n ≤ maxLen) :
    (w.drew.alloc (.cells (Builtin.zeroCells z.cells n ++ Builtin.zeroCells z.cells (grownCap w n 0 E - n)) E)).ownsRow w.heap.size E 1 (.slice (some ⟨w.heap.size, 0, none⟩) 0 (grownCap w n 0 E)) 0 [] := by
  have h1 := grownCap_ge w n 0 E
  have h2 := grownCap_le_maxLen w n 0 E hm
  refine ⟨by simp, .inr ⟨w.heap.size, _, _, rfl, Nat.le_refl _, heap_alloc_new w.drew _, Nat.zero_le _, h2, ?_, by simp⟩⟩
  simp only [Array.size_append, size_zeroCells, hz]
  omega
/-- A slice of sets of the call's own. -/
abbrev UOwn (w : World) (B : Nat) (v : Value) (l : List Int) : Prop := w.ownsRow B 27 1 v l.length (l.map (Value.int .u32))
set_option maxHeartbeats 1000000 in
theorem growS_any (w : World) (n : Nat) (hn : n ≤ 1000) :
    Calls Try.prog 59 #[.slice none 0 0, .int .i64 n] w fun e w' => (∃ v, e = .returned v ∧ SOwn w' w.heap.size v []) ∧ Below w.heap.size w w' := by
  obtain ⟨i0, hi, hz0, hz1, hz2⟩ := info_parts Try.infoStr
  by_cases h0 : n = 0
  · subst h0
    go_enter Try.func59, Try.ntmps59
    go_wp2
    go_ret
    exact ⟨⟨_, rfl, by simp, .inl ⟨rfl, rfl⟩⟩, Below.refl _ _⟩
  · have i1 : IntKind.i64.wrap (n : Int) = n := IntWalk.i64_in _ (by omega)
    have i2 : (0 : Int) < (n : Int) := by omega
    have happ := Lib.run_append_nil_zeros (P := Try.prog) w 23 3 23 9 i0 (Value.string ⟨#[]⟩) .i64 .i64 Try.underlying23 Try.underlying3 hi hz0 n (by omega) (by omega) (by omega) (by rw [hz2]; omega)
    have HO := Lib.hid (own_zeros w (Value.string ⟨#[]⟩) n 9 rfl (by unfold maxLen; omega))
    have hg := grownCap_ge w n 0 9
    generalize grownCap w n 0 9 = cap at *
    have HB := Lib.hid (((Below.refl w.heap.size w).drew).alloc (Nat.le_refl _) (.cells (Builtin.zeroCells (Value.string ⟨#[]⟩).cells n ++ Builtin.zeroCells (Value.string ⟨#[]⟩).cells (cap - n)) 9))
    generalize Builtin.zeroCells (Value.string ⟨#[]⟩).cells n ++ Builtin.zeroCells (Value.string ⟨#[]⟩).cells (cap - n) = Z at *
    go_enter Try.func59, Try.ntmps59
    go_wp2_with (at_builtin; refine Lib.wpList_append_run _ rfl _ _ _ _ rfl _ _ rfl rfl _ _ happ ?_)
    go_ret
    exact ⟨⟨_, rfl, HO.out⟩, HB.out⟩
set_option maxHeartbeats 4000000 in
theorem concatS_any (w : World) (v : Value) (L : List (List ByteArray)) (h : RowsOf Strs w v L) (hl : L.flatten.length ≤ 1000) (hl2 : L.length ≤ 1000) :
    Calls Try.prog 29 #[v] w fun e w' => (∃ v, e = .returned v ∧ SOwn w' w.heap.size v L.flatten) ∧ Below w.heap.size w w' := by
  obtain ⟨i0, hi, hz0, hz1, hz2⟩ := info_parts Try.infoStr
  obtain ⟨b, rfl, hlt, hc⟩ := h
  have HC := Lib.hid hc
  have HN := Lib.hid (fun k => flat_next (L := L) (k := k))
  have HL := Lib.hid (fun k => Nat.le_trans (flat_le L k) hl)
  have HE := Lib.hid (show (L.take L.length).flatten = L.flatten by rw [List.take_length])
  have HG := Lib.hid (fun w n hn => growS_any w n hn)
  clear hc hl
  go_enter Try.func29, Try.ntmps29
  go_wp2_with fail
  go_loopw [3, 11] (fun s i wr => ∃ k : Nat, k ≤ L.length ∧ i = .int .i64 k ∧ w = wr ∧ ∃ m : Nat, s = .int .i64 m ∧ m ≤ 1000 ∧ Hid (m = (L.take k).flatten.length)) (fun _ i _ => L.length - (intOf i).toNat)
  case atStart => exact ⟨0, Nat.zero_le _, rfl, rfl, 0, rfl, by omega, Lib.hid (by simp)⟩
  case round =>
    obtain ⟨k, hk, rfl, rfl, m, rfl, hm, HM⟩ := hrel
    by_cases hlk : k < L.length
    · obtain ⟨u, hx, hu⟩ := HC.out k hlk
      have hnx := congrArg List.length (HN.out k hlk)
      rw [List.length_append, ← HM.out] at hnx
      have hle := HL.out (k + 1)
      have HX := Lib.hid hnx
      obtain ⟨ua, uc, rfl, -, -⟩ := hu
      generalize hq : (L.getD k []).length = q at *
      have i1 : IntKind.i64.wrap ((m : Int) + q) = ((m + q : Nat) : Int) := by rw [IntWalk.i64_in _ (by omega)]; omega
      have i3 : ¬ ((m + q : Nat) : Int) < 0 := by omega
      clear hnx hq
      go_wp2_with fail
      go_roundw
      case rel => exact ⟨k + 1, by omega, by go_num, by trivial, m + q, rfl, by have := HX.out; omega, Lib.hid HX.out.symm⟩
      case measure => simp [intOf]; omega
    · have : k = L.length := by omega
      subst this
      go_wp2_with fail
      refine (HG.out _ m hm).mono ?_; rintro e w1 ⟨⟨v1, rfl, hv⟩, hb⟩
      have HV := Lib.hid hv
      have HB := Lib.hid hb
      obtain ⟨pa, pl, pc, rfl⟩ := own_slice3 hv
      clear hv hb
      go_wp2_with fail
      go_loopw [6, 27] (fun lv i wr => ∃ k : Nat, k ≤ L.length ∧ i = .int .i64 k ∧ Hid (SOwn wr w.heap.size lv (L.take k).flatten ∧ Below w.heap.size w wr)) (fun _ i _ => L.length - (intOf i).toNat)
      case atStart => exact ⟨0, Nat.zero_le _, rfl, Lib.hid ⟨HV.out, HB.out⟩⟩
      case round =>
        obtain ⟨k, hk, rfl, HS⟩ := hrel
        by_cases hlk : k < L.length
        · obtain ⟨u, hx, hu⟩ := HC.out k hlk
          have hx : wr.cell? ⟨b, k, none⟩ = some u := (HS.out.2.cell (p := ⟨b, k, none⟩) hlt).trans hx
          have HU := Lib.hid (hu.below HS.out.2)
          have HNk := HN.out k hlk
          have HLk := HL.out (k + 1)
          rw [HNk, List.length_append] at HLk
          have HLk := Lib.hid HLk
          have HNk := Lib.hid HNk
          generalize (L.take k).flatten = F at *
          generalize hq : L.getD k [] = q at *
          have hsz := HS.out.2.size
          obtain ⟨ua, uc, rfl, -, -⟩ := hu
          obtain ⟨pa, pl, pc, rfl⟩ := own_slice3 HS.out.1
          clear hq
          go_wp2_with (at_builtin; refine wpList_append_strs _ (by rfl) _ _ 23 rfl w.heap.size 9 i0 (Value.string ⟨#[]⟩) 16 Try.underlying23 hi hz0 hz1 hz2 rfl  _ _ F q rfl rfl HS.out.1 HU.out (by have := HLk.out; unfold maxLen; omega) (by have := HLk.out; omega) hsz ?_; intro v' w1 hown hgrow; have HQ := Lib.hid (And.intro hown (sown_grown HS.out.2 hsz HS.out.1 hgrow)); obtain ⟨pv', lv', cv', rfl⟩ := own_slice3 hown; clear hown hgrow)
          go_roundw
          case rel => exact ⟨k + 1, by omega, by go_num, Lib.hid ⟨by rw [HNk.out]; exact HQ.out.1, HQ.out.2⟩⟩
          case measure => simp [intOf]; omega
        · have : k = L.length := by omega
          subst this
          have HS2 := HS.out
          rw [HE.out] at HS2
          have HS3 := Lib.hid HS2
          clear HS2
          obtain ⟨pa, pl, pc, rfl⟩ := own_slice3 HS3.out.1
          go_wp2
          go_ret
          exact ⟨⟨_, rfl, HS3.out.1⟩, HS3.out.2⟩
set_option maxHeartbeats 1000000 in
theorem growU_any (w : World) (n : Nat) (hn : n ≤ 1000) :
    Calls Try.prog 61 #[.slice none 0 0, .int .i64 n] w fun e w' => (∃ v, e = .returned v ∧ UOwn w' w.heap.size v []) ∧ Below w.heap.size w w' := by
  obtain ⟨i0, hi, hz0, hz1, hz2⟩ := info_parts Try.infoU32
  by_cases h0 : n = 0
  · subst h0
    go_enter Try.func61, Try.ntmps61
    go_wp2
    go_ret
    exact ⟨⟨_, rfl, by simp, .inl ⟨rfl, rfl⟩⟩, Below.refl _ _⟩
  · have i1 : IntKind.i64.wrap (n : Int) = n := IntWalk.i64_in _ (by omega)
    have i2 : (0 : Int) < (n : Int) := by omega
    have happ := Lib.run_append_nil_zeros (P := Try.prog) w 24 3 24 27 i0 (Value.int .u32 0) .i64 .i64 Try.underlying24 Try.underlying3 hi hz0 n (by omega) (by omega) (by omega) (by rw [hz2]; omega)
    have HO := Lib.hid (own_zeros w (Value.int .u32 0) n 27 rfl (by unfold maxLen; omega))
    have hg := grownCap_ge w n 0 27
    generalize grownCap w n 0 27 = cap at *
    have HB := Lib.hid (((Below.refl w.heap.size w).drew).alloc (Nat.le_refl _) (.cells (Builtin.zeroCells (Value.int .u32 0).cells n ++ Builtin.zeroCells (Value.int .u32 0).cells (cap - n)) 27))
    generalize Builtin.zeroCells (Value.int .u32 0).cells n ++ Builtin.zeroCells (Value.int .u32 0).cells (cap - n) = Z at *
    go_enter Try.func61, Try.ntmps61
    go_wp2_with (at_builtin; refine Lib.wpList_append_run _ rfl _ _ _ _ rfl _ _ rfl rfl _ _ happ ?_)
    go_ret
    exact ⟨⟨_, rfl, HO.out⟩, HB.out⟩
set_option maxHeartbeats 4000000 in
theorem concatU_any (w : World) (v : Value) (L : List (List Int)) (h : RowsOf (Ints .u32) w v L) (hl : L.flatten.length ≤ 1000) (hl2 : L.length ≤ 1000) :
    Calls Try.prog 35 #[v] w fun e w' => (∃ v, e = .returned v ∧ UOwn w' w.heap.size v L.flatten) ∧ Below w.heap.size w w' := by
  obtain ⟨i0, hi, hz0, hz1, hz2⟩ := info_parts Try.infoU32
  obtain ⟨b, rfl, hlt, hc⟩ := h
  have HC := Lib.hid hc
  have HN := Lib.hid (fun k => flat_next (L := L) (k := k))
  have HL := Lib.hid (fun k => Nat.le_trans (flat_le L k) hl)
  have HE := Lib.hid (show (L.take L.length).flatten = L.flatten by rw [List.take_length])
  have HG := Lib.hid (fun w n hn => growU_any w n hn)
  clear hc hl
  go_enter Try.func35, Try.ntmps35
  go_wp2_with fail
  go_loopw [3, 11] (fun s i wr => ∃ k : Nat, k ≤ L.length ∧ i = .int .i64 k ∧ w = wr ∧ ∃ m : Nat, s = .int .i64 m ∧ m ≤ 1000 ∧ Hid (m = (L.take k).flatten.length)) (fun _ i _ => L.length - (intOf i).toNat)
  case atStart => exact ⟨0, Nat.zero_le _, rfl, rfl, 0, rfl, by omega, Lib.hid (by simp)⟩
  case round =>
    obtain ⟨k, hk, rfl, rfl, m, rfl, hm, HM⟩ := hrel
    by_cases hlk : k < L.length
    · obtain ⟨u, hx, hu⟩ := HC.out k hlk
      have hnx := congrArg List.length (HN.out k hlk)
      rw [List.length_append, ← HM.out] at hnx
      have hle := HL.out (k + 1)
      have HX := Lib.hid hnx
      obtain ⟨ua, uc, rfl, -, -⟩ := hu
      generalize hq : (L.getD k []).length = q at *
      have i1 : IntKind.i64.wrap ((m : Int) + q) = ((m + q : Nat) : Int) := by rw [IntWalk.i64_in _ (by omega)]; omega
      have i3 : ¬ ((m + q : Nat) : Int) < 0 := by omega
      clear hnx hq
      go_wp2_with fail
      go_roundw
      case rel => exact ⟨k + 1, by omega, by go_num, by trivial, m + q, rfl, by have := HX.out; omega, Lib.hid HX.out.symm⟩
      case measure => simp [intOf]; omega
    · have : k = L.length := by omega
      subst this
      go_wp2_with fail
      refine (HG.out _ m hm).mono ?_; rintro e w1 ⟨⟨v1, rfl, hv⟩, hb⟩
      have HV := Lib.hid hv
      have HB := Lib.hid hb
      obtain ⟨pa, pl, pc, rfl⟩ := own_slice3 hv
      clear hv hb
      go_wp2_with fail
      go_loopw [6, 27] (fun lv i wr => ∃ k : Nat, k ≤ L.length ∧ i = .int .i64 k ∧ Hid (UOwn wr w.heap.size lv (L.take k).flatten ∧ Below w.heap.size w wr)) (fun _ i _ => L.length - (intOf i).toNat)
      case atStart => exact ⟨0, Nat.zero_le _, rfl, Lib.hid ⟨HV.out, HB.out⟩⟩
      case round =>
        obtain ⟨k, hk, rfl, HS⟩ := hrel
        by_cases hlk : k < L.length
        · obtain ⟨u, hx, hu⟩ := HC.out k hlk
          have hx : wr.cell? ⟨b, k, none⟩ = some u := (HS.out.2.cell (p := ⟨b, k, none⟩) hlt).trans hx
          have HU := Lib.hid (hu.below HS.out.2)
          have HNk := HN.out k hlk
          have HLk := HL.out (k + 1)
          rw [HNk, List.length_append] at HLk
          have HLk := Lib.hid HLk
          have HNk := Lib.hid HNk
          generalize (L.take k).flatten = F at *
          generalize hq : L.getD k [] = q at *
          have hsz := HS.out.2.size
          obtain ⟨ua, uc, rfl, -, -⟩ := hu
          obtain ⟨pa, pl, pc, rfl⟩ := own_slice3 HS.out.1
          clear hq
          go_wp2_with (at_builtin; refine wpList_append_want _ (by rfl) _ _ 24 rfl w.heap.size 27 i0 (Value.int .u32 0) 4 Try.underlying24 hi hz0 hz1 hz2 rfl .u32 _ _ F q rfl rfl HS.out.1 HU.out (by have := HLk.out; unfold maxLen; omega) (by have := HLk.out; omega) hsz ?_; intro v' w1 hown hgrow; have HQ := Lib.hid (And.intro hown (sown_grown HS.out.2 hsz HS.out.1 hgrow)); obtain ⟨pv', lv', cv', rfl⟩ := own_slice3 hown; clear hown hgrow)
          go_roundw
          case rel => exact ⟨k + 1, by omega, by go_num, Lib.hid ⟨by rw [HNk.out]; exact HQ.out.1, HQ.out.2⟩⟩
          case measure => simp [intOf]; omega
        · have : k = L.length := by omega
          subst this
          have HS2 := HS.out
          rw [HE.out] at HS2
          have HS3 := Lib.hid HS2
          clear HS2
          obtain ⟨pa, pl, pc, rfl⟩ := own_slice3 HS3.out.1
          go_wp2
          go_ret
          exact ⟨⟨_, rfl, HS3.out.1⟩, HS3.out.2⟩
end Go.Proofs.Ytdlebcjkokabjaa
