/- Layer 12: the program's Put. -/
import Derived.Test.YtdnbjaeeebodkaaFacj
import Derived.Test.YtdnbjaeeebodkaaScif
namespace Go.Proofs.Ytdnbjaeeebodkaa
set_option maxRecDepth 100000
open Go.RowKit
set_option linter.unusedVariables false
theorem encU_three {x : Nat} (h : x ≤ 4096) : (encU x).length ≤ 3 := by
  have h1 := (encU_len (x := x) (by omega)).1
  have h2 := bytesN_is x (by omega)
  rcases h2.2 with h3 | h3
  · omega
  · by_cases h4 : bytesN x ≤ 2
    · omega
    · have : 256 ^ 2 ≤ 256 ^ (bytesN x - 1) := Nat.pow_le_pow_right (by decide) (by omega)
      omega
theorem flat_snoc {α : Type} {e : α → List Int} {l : List α} {k : Nat} (hk : k < l.length) : (l.take (k + 1)).flatMap e = (l.take k).flatMap e ++ e l[k] := by
  rw [List.take_add_one, List.getElem?_eq_getElem hk, List.flatMap_append]
  simp
theorem flat_max {α : Type} {e : α → List Int} {n : Nat} {l : List α} (h : ∀ x ∈ l, (e x).length ≤ n) : ∀ k, ((l.take k).flatMap e).length ≤ n * k
  | 0 => by simp
  | k + 1 => by
    have ih := flat_max h k
    by_cases hk : k < l.length
    · rw [flat_snoc hk, List.length_append]
      have := h _ (List.getElem_mem hk)
      rw [Nat.mul_add, Nat.mul_one]; omega
    · rw [List.take_of_length_le (by omega)]
      rw [List.take_of_length_le (by omega)] at ih
      exact Nat.le_trans ih (Nat.mul_le_mul_left _ (by omega))
theorem flat_max' {α : Type} {e : α → List Int} {n : Nat} {l : List α} (h : ∀ x ∈ l, (e x).length ≤ n) : (l.flatMap e).length ≤ n * l.length := by
  have := flat_max h l.length
  rwa [List.take_length] at this
theorem eU_max {l : List Int} (h : ∀ x ∈ l, 0 ≤ x ∧ x ≤ 4096) : ∀ x ∈ l, (eU x).length ≤ 3 := fun x hx => by
  have := h x hx
  exact encU_three (by omega)
theorem eI_max {l : List Int} (h : ∀ x ∈ l, -9223372036854775808 ≤ x ∧ x ≤ 9223372036854775807) : ∀ x ∈ l, (encI x).length ≤ 9 := fun x hx => (encI_len (h x hx).1 (h x hx).2).2
theorem eN_max {l : List Nat} : ∀ x ∈ l, (eN x).length ≤ 8 := fun x _ => by unfold eN encF; rw [bigN_len]; exact Nat.le_refl _
theorem outU_b (w : World) (N : Nat) (bs : List Int) (x : Nat) (h : OutB w N bs) (hx : x < 18446744073709551616) (hl : bs.length ≤ 1000000) :
    Calls Try.prog 32 #[.pointer (some ⟨N, 0, none⟩), .int .u64 x] w (PutB w N (bs ++ encU x)) := by
  obtain ⟨L, h1, rfl⟩ := h
  refine (outU_any w N L x hx h1 ?_).mono ?_
  · have := (encU_len hx).2
    rw [show catR (encU x :: L) = catR L ++ encU x from rfl, List.length_append]
    omega
  · rintro r w' ⟨rfl, h2, h3⟩
    exact ⟨rfl, ⟨_, h2, rfl⟩, h3⟩
theorem outI_b (w : World) (N : Nat) (bs : List Int) (x : Int) (h : OutB w N bs) (h0 : -9223372036854775808 ≤ x) (h1 : x ≤ 9223372036854775807) (hl : bs.length ≤ 1000000) :
    Calls Try.prog 36 #[.pointer (some ⟨N, 0, none⟩), .int .i64 x] w (PutB w N (bs ++ encI x)) := by
  obtain ⟨L, ho, rfl⟩ := h
  refine (outI_any w N L x h0 h1 ho ?_).mono ?_
  · have := (encI_len h0 h1).2
    rw [show catR (encI x :: L) = catR L ++ encI x from rfl, List.length_append]
    omega
  · rintro r w' ⟨rfl, h2, h3⟩
    exact ⟨rfl, ⟨_, h2, rfl⟩, h3⟩
theorem outF_b (w : World) (N : Nat) (bs : List Int) (x : Nat) (h : OutB w N bs) (hx : W64 x) (hl : bs.length ≤ 1000000) :
    Calls Try.prog 38 #[.pointer (some ⟨N, 0, none⟩), .float .f64 x] w (PutB w N (bs ++ eN x)) := by
  obtain ⟨L, ho, rfl⟩ := h
  have hk := key_range hx
  refine (outF_any w N L x (keyI x).toNat hx (by omega) ho ?_).mono ?_
  · rw [show catR (encF (keyI x).toNat :: L) = catR L ++ encF (keyI x).toNat from rfl, List.length_append]
    unfold encF; rw [bigN_len]
    omega
  · rintro r w' ⟨rfl, h2, h3⟩
    exact ⟨rfl, ⟨_, h2, rfl⟩, h3⟩
set_option maxHeartbeats 2000000 in
theorem fput1_any (w : World) (N M : Nat) (bs : List Int) (z : Int) (h : OutB w N bs) (hz0 : 0 ≤ z) (hz : z ≤ 4096) (hl : bs.length ≤ 1000000) (hM : w.cell? ⟨M, 0, none⟩ = some (.pointer (some ⟨N, 0, none⟩))) :
    Calls Try.prog 34 #[.int .i64 z, .pointer (some ⟨M, 0, none⟩)] w (PutB w N (bs ++ eU z)) := by
  have HU := Lib.hid (outU_b w N bs z.toNat h (by omega) hl)
  unfold eU
  have ez : ((z.toNat : Nat) : Int) = z := by omega
  rw [ez] at HU
  have i1 : IntKind.u64.wrap z = z := by rw [IntKind.wrap_u64]; omega
  generalize encU z.toNat = e at *
  clear h ez
  go_enter Try.func34, Try.ntmps34
  go_wp2_with fail
  refine (HU.out).mono ?_; rintro r w1 ⟨rfl, ho, hg⟩
  have HS := Lib.hid (And.intro ho hg)
  clear ho hg
  go_wp2_with fail
  go_end0
  exact ⟨rfl, HS.out.1, HS.out.2⟩
set_option maxHeartbeats 4000000 in
theorem eachC_any (w0 w : World) (N M : Nat) (v : Value) (l : List Int) (bs : List Int) (hv : Ints .i64 w0 v l) (hw : Below w0.heap.size w0 w) (hN : w0.heap.size ≤ N) (h : OutB w N bs) (hs : ∀ x ∈ l, 0 ≤ x ∧ x ≤ 4096) (hl : l.length ≤ 20) (hb : bs.length ≤ 900000) (hM : w.cell? ⟨M, 0, none⟩ = some (.pointer (some ⟨N, 0, none⟩))) (hne : M ≠ N) :
    Calls Try.prog 33 #[v, .func (.func 34) #[] #[.pointer (some ⟨M, 0, none⟩)]] w (PutB w N (bs ++ l.flatMap eU)) := by
  have HL := Lib.hid (fun k => flat_max (e := eU) (n := 9) (l := l) (fun x hx => Nat.le_trans (eU_max hs x hx) (by decide)) k)
  have HT := Lib.hid (fun k (hk : k < l.length) wr X (hx : X.length ≤ 1000000) (h : OutB wr N X) hM => fput1_any wr N M X (l.getD k 0) h (And.left (by
    have e : l.getD k 0 = l[k] := by simp [List.getD, hk]
    rw [e]; exact hs _ (List.getElem_mem hk))) (And.right (by
    have e : l.getD k 0 = l[k] := by simp [List.getD, hk]
    rw [e]; exact hs _ (List.getElem_mem hk))) hx hM)
  have HN := Lib.hid (fun k (hk : k < l.length) => show (l.take (k + 1)).flatMap eU = (l.take k).flatMap eU ++ eU (l.getD k 0) by
    have e : l.getD k 0 = l[k] := by simp [List.getD, hk]
    rw [e]; exact flat_snoc hk)
  have HE := Lib.hid (show (l.take l.length).flatMap eU = l.flatMap eU by rw [List.take_length])
  have HB := Lib.hid (fun wr (h : w.grownBy wr (some N)) => below_grown hw h hN)
  have HO := Lib.hid h
  obtain ⟨a, cap, rfl, h1, h3⟩ := hv
  have HC := Lib.hid h3
  clear hs h3 h hw
  have HMm := Lib.hid hM
  clear hM
  go_enter Try.func33, Try.ntmps33
  go_wp2_with fail
  go_loopw [8] (fun i wr => ∃ k : Nat, k ≤ l.length ∧ i = .int .i64 k ∧ Hid (OutB wr N (bs ++ (l.take k).flatMap eU) ∧ w.grownBy wr (some N))) (fun i _ => l.length - (intOf i).toNat)
  case atStart => exact ⟨0, Nat.zero_le _, rfl, Lib.hid ⟨(show bs ++ (l.take 0).flatMap eU = bs by simp).symm ▸ HO.out, grown_below (Below.refl _ _) _⟩⟩
  case round =>
    obtain ⟨k, hk, rfl, HS⟩ := hrel
    by_cases hlk : k < l.length
    · have hlk' : (k : Int) < (l.length : Int) := by omega
      rcases HC.out with h3 | ⟨b, off, rfl, hlt, hc⟩
      · rw [h3] at hlk; simp at hlk
      have hx := ((HB.out wr HS.out.2).cell (p := ⟨b, off + k, none⟩) hlt).trans (hc k hlk)
      have HTk := Lib.hid (HT.out k hlk wr _ (by have := HL.out k; simp only [List.length_append]; omega) HS.out.1 (cell_grown HS.out.2 HMm.out hne))
      have HNk := Lib.hid (HN.out k hlk)
      clear hc
      generalize l.getD k 0 = x at *
      generalize eU x = y at *
      generalize (l.take k).flatMap eU = q at *
      go_wp2_with fail
      refine (HTk.out).mono ?_; rintro r w2 ⟨rfl, ho, hg⟩
      have HQ := Lib.hid (And.intro ho (grown_then HS.out.2 hg))
      clear ho hg hx
      go_wp2_with fail
      go_roundw
      case rel => exact ⟨k + 1, by omega, by go_num, Lib.hid ⟨by rw [HNk.out, ← List.append_assoc]; exact HQ.out.1, HQ.out.2⟩⟩
      case measure => simp [intOf]; omega
    · have hke : k = l.length := by omega
      subst hke
      have HS2 := HS.out
      rw [HE.out] at HS2
      have HS3 := Lib.hid HS2
      clear HS2
      go_wp2_with fail
      go_end0
      exact ⟨rfl, HS3.out.1, HS3.out.2⟩
set_option maxHeartbeats 4000000 in
theorem eachI_any (w0 w : World) (N : Nat) (v : Value) (l : List Int) (bs : List Int) (hv : Ints .i64 w0 v l) (hw : Below w0.heap.size w0 w) (hN : w0.heap.size ≤ N) (h : OutB w N bs) (hs : ∀ x ∈ l, -9223372036854775808 ≤ x ∧ x ≤ 9223372036854775807) (hl : l.length ≤ 20) (hb : bs.length ≤ 900000) :
    Calls Try.prog 35 #[v, .func (.func 36) #[.pointer (some ⟨N, 0, none⟩)] #[]] w (PutB w N (bs ++ l.flatMap encI)) := by
  have HL := Lib.hid (fun k => flat_max (e := encI) (n := 9) (l := l) (fun x hx => eI_max hs x hx) k)
  have HT := Lib.hid (fun k (hk : k < l.length) wr X (hx : X.length ≤ 1000000) (h : OutB wr N X) => outI_b wr N X (l.getD k 0) h (And.left (by
    have e : l.getD k 0 = l[k] := by simp [List.getD, hk]
    rw [e]; exact hs _ (List.getElem_mem hk))) (And.right (by
    have e : l.getD k 0 = l[k] := by simp [List.getD, hk]
    rw [e]; exact hs _ (List.getElem_mem hk))) hx)
  have HN := Lib.hid (fun k (hk : k < l.length) => show (l.take (k + 1)).flatMap encI = (l.take k).flatMap encI ++ encI (l.getD k 0) by
    have e : l.getD k 0 = l[k] := by simp [List.getD, hk]
    rw [e]; exact flat_snoc hk)
  have HE := Lib.hid (show (l.take l.length).flatMap encI = l.flatMap encI by rw [List.take_length])
  have HB := Lib.hid (fun wr (h : w.grownBy wr (some N)) => below_grown hw h hN)
  have HO := Lib.hid h
  obtain ⟨a, cap, rfl, h1, h3⟩ := hv
  have HC := Lib.hid h3
  clear hs h3 h hw
  go_enter Try.func35, Try.ntmps35
  go_wp2_with fail
  go_loopw [8] (fun i wr => ∃ k : Nat, k ≤ l.length ∧ i = .int .i64 k ∧ Hid (OutB wr N (bs ++ (l.take k).flatMap encI) ∧ w.grownBy wr (some N))) (fun i _ => l.length - (intOf i).toNat)
  case atStart => exact ⟨0, Nat.zero_le _, rfl, Lib.hid ⟨(show bs ++ (l.take 0).flatMap encI = bs by simp).symm ▸ HO.out, grown_below (Below.refl _ _) _⟩⟩
  case round =>
    obtain ⟨k, hk, rfl, HS⟩ := hrel
    by_cases hlk : k < l.length
    · have hlk' : (k : Int) < (l.length : Int) := by omega
      rcases HC.out with h3 | ⟨b, off, rfl, hlt, hc⟩
      · rw [h3] at hlk; simp at hlk
      have hx := ((HB.out wr HS.out.2).cell (p := ⟨b, off + k, none⟩) hlt).trans (hc k hlk)
      have HTk := Lib.hid (HT.out k hlk wr _ (by have := HL.out k; simp only [List.length_append]; omega) HS.out.1)
      have HNk := Lib.hid (HN.out k hlk)
      clear hc
      generalize l.getD k 0 = x at *
      generalize encI x = y at *
      generalize (l.take k).flatMap encI = q at *
      go_wp2_with fail
      refine (HTk.out).mono ?_; rintro r w2 ⟨rfl, ho, hg⟩
      have HQ := Lib.hid (And.intro ho (grown_then HS.out.2 hg))
      clear ho hg hx
      go_wp2_with fail
      go_roundw
      case rel => exact ⟨k + 1, by omega, by go_num, Lib.hid ⟨by rw [HNk.out, ← List.append_assoc]; exact HQ.out.1, HQ.out.2⟩⟩
      case measure => simp [intOf]; omega
    · have hke : k = l.length := by omega
      subst hke
      have HS2 := HS.out
      rw [HE.out] at HS2
      have HS3 := Lib.hid HS2
      clear HS2
      go_wp2_with fail
      go_end0
      exact ⟨rfl, HS3.out.1, HS3.out.2⟩
set_option maxHeartbeats 4000000 in
theorem eachN_any (w0 w : World) (N : Nat) (v : Value) (l : List Nat) (bs : List Int) (hv : Fls w0 v l) (hw : Below w0.heap.size w0 w) (hN : w0.heap.size ≤ N) (h : OutB w N bs) (hs : ∀ x ∈ l, W64 x) (hl : l.length ≤ 20) (hb : bs.length ≤ 900000) :
    Calls Try.prog 37 #[v, .func (.func 38) #[.pointer (some ⟨N, 0, none⟩)] #[]] w (PutB w N (bs ++ l.flatMap eN)) := by
  have HL := Lib.hid (fun k => flat_max (e := eN) (n := 9) (l := l) (fun x hx => Nat.le_trans (eN_max x hx) (by decide)) k)
  have HT := Lib.hid (fun k (hk : k < l.length) wr X (hx : X.length ≤ 1000000) (h : OutB wr N X) => outF_b wr N X (l.getD k 0) h (by
    have e : l.getD k 0 = l[k] := by simp [List.getD, hk]
    rw [e]; exact hs _ (List.getElem_mem hk)) hx)
  have HN := Lib.hid (fun k (hk : k < l.length) => show (l.take (k + 1)).flatMap eN = (l.take k).flatMap eN ++ eN (l.getD k 0) by
    have e : l.getD k 0 = l[k] := by simp [List.getD, hk]
    rw [e]; exact flat_snoc hk)
  have HE := Lib.hid (show (l.take l.length).flatMap eN = l.flatMap eN by rw [List.take_length])
  have HB := Lib.hid (fun wr (h : w.grownBy wr (some N)) => below_grown hw h hN)
  have HO := Lib.hid h
  obtain ⟨a, cap, rfl, h1, h3⟩ := hv
  have HC := Lib.hid h3
  clear hs h3 h hw
  go_enter Try.func37, Try.ntmps37
  go_wp2_with fail
  go_loopw [8] (fun i wr => ∃ k : Nat, k ≤ l.length ∧ i = .int .i64 k ∧ Hid (OutB wr N (bs ++ (l.take k).flatMap eN) ∧ w.grownBy wr (some N))) (fun i _ => l.length - (intOf i).toNat)
  case atStart => exact ⟨0, Nat.zero_le _, rfl, Lib.hid ⟨(show bs ++ (l.take 0).flatMap eN = bs by simp).symm ▸ HO.out, grown_below (Below.refl _ _) _⟩⟩
  case round =>
    obtain ⟨k, hk, rfl, HS⟩ := hrel
    by_cases hlk : k < l.length
    · have hlk' : (k : Int) < (l.length : Int) := by omega
      rcases HC.out with h3 | ⟨b, off, rfl, hlt, hc⟩
      · rw [h3] at hlk; simp at hlk
      have hx := ((HB.out wr HS.out.2).cell (p := ⟨b, off + k, none⟩) hlt).trans (hc k hlk)
      have HTk := Lib.hid (HT.out k hlk wr _ (by have := HL.out k; simp only [List.length_append]; omega) HS.out.1)
      have HNk := Lib.hid (HN.out k hlk)
      clear hc
      generalize l.getD k 0 = x at *
      generalize eN x = y at *
      generalize (l.take k).flatMap eN = q at *
      go_wp2_with fail
      refine (HTk.out).mono ?_; rintro r w2 ⟨rfl, ho, hg⟩
      have HQ := Lib.hid (And.intro ho (grown_then HS.out.2 hg))
      clear ho hg hx
      go_wp2_with fail
      go_roundw
      case rel => exact ⟨k + 1, by omega, by go_num, Lib.hid ⟨by rw [HNk.out, ← List.append_assoc]; exact HQ.out.1, HQ.out.2⟩⟩
      case measure => simp [intOf]; omega
    · have hke : k = l.length := by omega
      subst hke
      have HS2 := HS.out
      rw [HE.out] at HS2
      have HS3 := Lib.hid HS2
      clear HS2
      go_wp2_with fail
      go_end0
      exact ⟨rfl, HS3.out.1, HS3.out.2⟩
/-- What stands in memory while facts are put: the writer, the variable that the closure holds. -/
structure Pv (w1 wr : World) (bs : List Int) : Prop where
  o : OutB wr w1.heap.size bs
  m : wr.cell? ⟨w1.heap.size + 1, 0, none⟩ = some (.pointer (some ⟨w1.heap.size, 0, none⟩))
  g : Below w1.heap.size w1 wr
theorem Pv.call {w1 wr w' : World} {bs bs' : List Int} (h : Pv w1 wr bs) (ho : OutB w' w1.heap.size bs') (hg : wr.grownBy w' (some w1.heap.size)) : Pv w1 w' bs' :=
  ⟨ho, cell_grown hg h.m (by show w1.heap.size + 1 ≠ _; omega), below_grown h.g hg (Nat.le_refl _)⟩
theorem Pv.below {w1 wr w' : World} {bs : List Int} (h : Pv w1 wr bs) (hb : Below wr.heap.size wr w') : Pv w1 w' bs :=
  ⟨h.o.below hb, cell_hold hb h.m, below_then h.g hb⟩
theorem pv_start (w1 : World) : Pv w1 ((w1.alloc (.cells #[.pointer none, .int .i64 0, .bool true] 100)).alloc (.cells #[.pointer (some ⟨w1.heap.size, 0, none⟩)] 67)) [] := by
  have hb2 := below_one (w1.alloc (.cells #[.pointer none, .int .i64 0, .bool true] 100)) (.cells #[.pointer (some ⟨w1.heap.size, 0, none⟩)] 67)
  have hb := below_then (below_one w1 (.cells #[.pointer none, .int .i64 0, .bool true] 100)) hb2
  have hz : (w1.alloc (.cells #[.pointer none, .int .i64 0, .bool true] 100)).heap.size = w1.heap.size + 1 := by simp
  have hn := heap_alloc_new (w1.alloc (.cells #[.pointer none, .int .i64 0, .bool true] 100)) (.cells #[.pointer (some ⟨w1.heap.size, 0, none⟩)] 67)
  rw [hz] at hn
  refine ⟨⟨[], (out_new w1).below hb2, rfl⟩, ?_, hb⟩
  generalize (w1.alloc (.cells #[.pointer none, .int .i64 0, .bool true] 100)).alloc (.cells #[.pointer (some ⟨w1.heap.size, 0, none⟩)] 67) = W at hn ⊢
  simp [World.cell?, hn]
theorem facts_slice {w : World} {v : Value} {l : List Fa} (h : Facts w v l) : ∃ a c, v = .slice a l.length c := by
  obtain ⟨a, c, e, -⟩ := h
  exact ⟨a, c, e⟩
set_option maxHeartbeats 8000000 in
theorem fput_no (w : World) (D I M V v : Value) (S : Sc) (l : List Fa) (h : Sch4 w D I M V S) (hw : SWf S) (hv : Facts w v l) (hf : ∀ f ∈ l, FaWf f) (hc : (batchL S l).2 ≠ 0) :
    Calls Try.prog 15 #[SchV D I M V, v] w fun r w' => r = .returned (.tuple #[.slice none 0 0, .int .i64 ((batchL S l).2 : Nat)]) ∧ Below w.heap.size w w' := by
  have HB0 := Lib.hid (below_one w (SchO D I M V))
  have HC := Lib.hid (fun w1 (hb : Below w.heap.size w w1) => pbatch_any w1 D I M V v S l (h.below hb) hw (hv.below hb) hf)
  obtain ⟨⟨a, c, rfl⟩, ⟨a2, c2, rfl⟩, ⟨a3, c3, rfl⟩, a4, c4, rfl⟩ := h.slices
  obtain ⟨b0, cap, rfl⟩ := facts_slice hv
  have hc2 : (((batchL S l).2 : Int) != 0) = true := by simp; omega
  unfold PairL at HC
  generalize ((batchL S l).2 : Int) = ck at *
  generalize ((batchL S l).1 : Int) = ca at *
  clear h hw hc hv hf
  go_enter Try.func15, Try.ntmps15
  go_wp2_with fail
  refine (HC.out _ HB0.out).mono ?_; rintro r w1 ⟨rfl, hb⟩
  have HB1 := Lib.hid (below_then HB0.out hb)
  clear hb
  go_wp2_with fail
  go_ret2
  exact ⟨rfl, HB1.out⟩
/-- A fact of a batch is as small as the schema says. -/
theorem fit_small {S : Sc} {f : Fa} (hc : checkL S = 0) (hf : FaWf f) (h : fitsL S f = 0) : (∀ x ∈ f.cs, 0 ≤ x ∧ x ≤ 4096) ∧ f.cs.length ≤ 6 ∧ f.is.length ≤ 3 ∧ f.ns.length ≤ 2 := by
  have hn := cnt_iff.1 (check_cnt' hc).1
  have h1 := fits_ok h
  have h2 := fit_of_fits hc hf.i hf.n h
  refine ⟨fun x hx => ?_, by omega, by omega, by omega⟩
  obtain ⟨k, hk⟩ := List.getElem?_of_mem hx
  have := h2.c k x hk
  omega
theorem encFa_le {S : Sc} {f : Fa} (hc : checkL S = 0) (hf : FaWf f) (h : fitsL S f = 0) : (encFa f).length ≤ 61 := by
  obtain ⟨h1, h2, h3, h4⟩ := fit_small hc hf h
  have k1 := flat_max' (eU_max h1)
  have k2 := flat_max' (eI_max hf.i)
  have k3 := flat_max' (eN_max (l := f.ns))
  unfold encFa
  simp only [List.length_append]
  omega
set_option maxHeartbeats 8000000 in
theorem fput_yes (w : World) (D I M V v : Value) (S : Sc) (l : List Fa) (h : Sch4 w D I M V S) (hw : SWf S) (hv : Facts w v l) (hf : ∀ f ∈ l, FaWf f) (hc : (batchL S l).2 = 0) :
    Calls Try.prog 15 #[SchV D I M V, v] w fun r w' => (∃ u, r = .returned (.tuple #[u, .int .i64 0]) ∧ BOwn w' w.heap.size u (encFs l)) ∧ Below w.heap.size w w' := by
  obtain ⟨hck, hl1, hl2, hfs⟩ := batch_ok hc
  have HB0 := Lib.hid (below_one w (SchO D I M V))
  have HC := Lib.hid (fun w1 (hb : Below w.heap.size w w1) => pbatch_any w1 D I M V v S l (h.below hb) hw (hv.below hb) hf)
  unfold PairL at HC
  rw [hc] at HC
  generalize (((batchL S l).1 : Nat) : Int) = ca at HC
  obtain ⟨⟨a, c, rfl⟩, ⟨a2, c2, rfl⟩, ⟨a3, c3, rfl⟩, a4, c4, rfl⟩ := h.slices
  have HLn := Lib.hid (fun k => flat_max (e := encFa) (n := 61) (l := l) (fun x hx => encFa_le hck (hf x hx) (hfs x hx)) k)
  have HS := Lib.hid (fun k (hk : k < l.length) => fit_small hck (hf _ (List.getElem_mem hk)) (hfs _ (List.getElem_mem hk)))
  have HW := Lib.hid (fun k (hk : k < l.length) => hf _ (List.getElem_mem hk))
  have P0 := Lib.hid (fun w1 wr (hk : Pv w1 wr []) => outU_b wr w1.heap.size [] l.length hk.o (by omega) (by simp))
  have P1 := Lib.hid (fun w1 wr bs k (hk : k < l.length) C J N (hp : Pv w1 wr bs) (hb : Below w.heap.size w w1) (h3 : Fact3 w C J N l[k]) (hl : bs.length ≤ 800000) => eachC_any w1 wr w1.heap.size (w1.heap.size + 1) C l[k].cs bs (h3.c.below hb) hp.g (Nat.le_refl _) hp.o (HS.out k hk).1 (by have := (HS.out k hk).2; omega) (by omega) hp.m (by omega))
  have P2 := Lib.hid (fun w1 wr bs k (hk : k < l.length) C J N (hp : Pv w1 wr bs) (hb : Below w.heap.size w w1) (h3 : Fact3 w C J N l[k]) (hl : bs.length ≤ 800000) => eachI_any w1 wr w1.heap.size J l[k].is bs (h3.i.below hb) hp.g (Nat.le_refl _) hp.o (HW.out k hk).i (by have := (HS.out k hk).2; omega) (by omega))
  have P3 := Lib.hid (fun w1 wr bs k (hk : k < l.length) C J N (hp : Pv w1 wr bs) (hb : Below w.heap.size w w1) (h3 : Fact3 w C J N l[k]) (hl : bs.length ≤ 800000) => eachN_any w1 wr w1.heap.size N l[k].ns bs (h3.n.below hb) hp.g (Nat.le_refl _) hp.o (HW.out k hk).n (by have := (HS.out k hk).2; omega) (by omega))
  have HM1 := Lib.hid (fun k (hk : k < l.length) => And.intro (flat_max' (eU_max (HS.out k hk).1)) (And.intro (flat_max' (eI_max (HW.out k hk).i)) (HS.out k hk).2))
  have HN := Lib.hid (fun k (hk : k < l.length) => show (l.take (k + 1)).flatMap encFa = (l.take k).flatMap encFa ++ (l[k].cs.flatMap eU ++ l[k].is.flatMap encI ++ l[k].ns.flatMap eN) from flat_snoc hk)
  have HE := Lib.hid (show encU l.length ++ (l.take l.length).flatMap encFa = encFs l by rw [List.take_length]; rfl)
  have hU9 := (encU_len (x := l.length) (by omega)).2
  have HY := Lib.hid (fun w1 N bs (h : OutB w1 N bs) (hl : bs.length ≤ 2000000) => show Calls Try.prog 39 #[.pointer (some ⟨N, 0, none⟩)] w1 (BytesP w1 bs) by
    obtain ⟨L, h1, rfl⟩ := h
    exact bytes_any w1 N L h1 hl)
  obtain ⟨b0, cap, rfl, -, -, h3⟩ := hv
  have HV := Lib.hid h3
  have i1 : IntKind.u64.wrap (l.length : Int) = (l.length : Int) := by rw [IntKind.wrap_u64]; omega
  generalize encFs l = EF at *
  generalize encU l.length = EU at *
  clear h hw hc h3 hf hfs hck
  go_enter Try.func15, Try.ntmps15
  go_wp2_with fail
  refine (HC.out _ HB0.out).mono ?_; rintro r w1 ⟨rfl, hb⟩
  have HB1 := Lib.hid (below_then HB0.out hb)
  have HP0 := Lib.hid (pv_start w1)
  clear hb
  go_wp2_with fail
  refine (newout_any _).mono ?_; rintro r w2 ⟨rfl, rfl⟩
  have m0 := HP0.out.m
  generalize hW0 : (w1.alloc (.cells #[.pointer none, .int .i64 0, .bool true] 100)).alloc (.cells #[.pointer (some ⟨w1.heap.size, 0, none⟩)] 67) = W0 at *
  go_wp2_with fail
  refine (P0.out _ _ HP0.out).mono ?_; rintro r w3 ⟨rfl, ho, hg⟩
  clear hW0
  have HP1 := Lib.hid (HP0.out.call ho hg)
  clear ho hg m0
  go_wp2_with fail
  go_loopw [28] (fun i wr => ∃ k : Nat, k ≤ l.length ∧ i = .int .i64 k ∧ Hid (Pv w1 wr (EU ++ (l.take k).flatMap encFa))) (fun i _ => l.length - (intOf i).toNat)
  case atStart => exact ⟨0, Nat.zero_le _, rfl, Lib.hid ((show EU ++ (l.take 0).flatMap encFa = [] ++ EU by simp).symm ▸ HP1.out)⟩
  case round =>
    obtain ⟨k, hk, rfl, HD⟩ := hrel
    by_cases hlk : k < l.length
    · have hlk' : (k : Int) < (l.length : Int) := by omega
      rcases HV.out with h3 | ⟨b, off, rfl, hlt, hcc⟩
      · rw [h3] at hlk; simp at hlk
      obtain ⟨C, J, N, hx, hf3⟩ := hcc k hlk
      obtain ⟨y0, y1, y2⟩ := tri_hold (below_then HB1.out HD.out.g) hx
      have Q1 := Lib.hid (fun wr bs hp hl => P1.out w1 wr bs k hlk _ _ _ hp HB1.out hf3 hl)
      have Q2 := Lib.hid (fun wr bs hp hl => P2.out w1 wr bs k hlk _ _ _ hp HB1.out hf3 hl)
      have Q3 := Lib.hid (fun wr bs hp hl => P3.out w1 wr bs k hlk _ _ _ hp HB1.out hf3 hl)
      have HNk := Lib.hid (HN.out k hlk)
      have HEq := Lib.hid (fun Y => List.append_assoc EU ((l.take k).flatMap encFa) Y)
      obtain ⟨q1, q2, q3, q4, q5⟩ := HM1.out k hlk
      have hLk := HLn.out k
      obtain ⟨⟨pa, pc, rfl⟩, ⟨pa2, pc2, rfl⟩, pa3, pc3, rfl⟩ := hf3.slices
      have HQ := Lib.hid (show (EU ++ (l.take k).flatMap encFa).length ≤ 20000 ∧ (EU ++ (l.take k).flatMap encFa ++ l[k].cs.flatMap eU).length ≤ 30000 ∧ (EU ++ (l.take k).flatMap encFa ++ l[k].cs.flatMap eU ++ l[k].is.flatMap encI).length ≤ 40000 by simp only [List.length_append]; omega)
      have hb2 := below_one wr (FaO (.slice pa l[k].cs.length pc) (.slice pa2 l[k].is.length pc2) (.slice pa3 l[k].ns.length pc3))
      have HK0 := Lib.hid (fbox_new wr (.slice pa l[k].cs.length pc) (.slice pa2 l[k].is.length pc2) (.slice pa3 l[k].ns.length pc3))
      have HD2 := Lib.hid (HD.out.below hb2)
      have HKN := Lib.hid (show wr.heap.size ≠ w1.heap.size from by have := HD.out.o; obtain ⟨L, hL, -⟩ := this; have := hL.lt; omega)
      obtain ⟨x0, x1, x2⟩ := HK0.out.reads
      have m0 := HD2.out.m
      clear hcc hx hf3 q1 q2 q3 q4 q5 hLk
      generalize l[k].cs.flatMap eU = E1 at *
      generalize l[k].is.flatMap encI = E2 at *
      generalize l[k].ns.flatMap eN = E3 at *
      generalize EU ++ (l.take k).flatMap encFa = E0 at *
      generalize l[k].cs.length = s1 at *
      generalize l[k].is.length = s2 at *
      generalize l[k].ns.length = s3 at *
      clear hb2
      go_wp2_with fail
      generalize hW2 : wr.alloc (.cells #[.slice pa s1 pc, .slice pa2 s2 pc2, .slice pa3 s3 pc3] 42) = W2 at *
      refine (Q1.out _ _ HD2.out (by have := HQ.out; omega)).mono ?_; rintro r w4 ⟨rfl, ho, hg⟩
      have HD3 := Lib.hid (HD2.out.call ho hg)
      have HK1 := Lib.hid (HK0.out.grown hg HKN.out)
      clear ho hg x0 x1 x2 m0 y0 y1 y2 hW2
      obtain ⟨x0, x1, x2⟩ := HK1.out.reads
      have m0 := HD3.out.m
      go_wp2_with fail
      refine (Q2.out _ _ HD3.out (by have := HQ.out; omega)).mono ?_; rintro r w5 ⟨rfl, ho, hg⟩
      have HD4 := Lib.hid (HD3.out.call ho hg)
      have HK2 := Lib.hid (HK1.out.grown hg HKN.out)
      clear ho hg x0 x1 x2 m0
      obtain ⟨x0, x1, x2⟩ := HK2.out.reads
      have m0 := HD4.out.m
      go_wp2_with fail
      refine (Q3.out _ _ HD4.out (by have := HQ.out; omega)).mono ?_; rintro r w6 ⟨rfl, ho, hg⟩
      have HD5 := Lib.hid (HD4.out.call ho hg)
      clear ho hg x0 x1 x2 m0
      go_wp2_with fail
      go_roundw
      case rel => exact ⟨k + 1, by omega, by go_num, Lib.hid (by rw [HNk.out, ← HEq.out]; have := HD5.out; simpa only [List.append_assoc] using this)⟩
      case measure => simp [intOf]; omega
    · have hke : k = l.length := by omega
      subst hke
      have HL2 := Lib.hid (show (EU ++ (l.take l.length).flatMap encFa).length ≤ 2000000 by have := HLn.out l.length; simp only [List.length_append]; omega)
      have HD2 := HD
      rw [HE.out] at HD2 HL2
      have m0 := HD2.out.m
      go_wp2_with fail
      refine (HY.out _ _ _ HD2.out.o HL2.out).mono ?_; rintro r w7 ⟨⟨v, rfl, ho⟩, hb⟩
      have HO := Lib.hid (And.intro ho (below_then (below_then HB1.out HD2.out.g) hb))
      have hsz := HD2.out.g.size
      have hsz2 := HB1.out.size
      clear hb m0
      obtain ⟨pa, pl, pc, rfl⟩ := own_slice3 ho
      clear ho
      go_wp2_with fail
      go_ret2
      exact ⟨⟨_, rfl, own_mono HO.out.1 (by omega)⟩, HO.out.2⟩
end Go.Proofs.Ytdnbjaeeebodkaa
