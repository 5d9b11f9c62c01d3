/- Layer 11: what a schema's bytes are. -/
import Derived.Test.YtdlebcjkokabjaaScia
import Derived.Test.YtdlebcjkokabjaaScht
import Derived.Test.YtdlebcjkokabjaaBufq
import Derived.Test.YtdlebcjkokabjaaSche
import Derived.Test.YtdlebcjkokabjaaSchm
import Derived.Test.YtdlebcjkokabjaaSchy
namespace Go.Proofs.Ytdlebcjkokabjaa
set_option maxRecDepth 100000
open Go.RowKit
set_option linter.unusedVariables false
/-- A writer of these bytes. -/
def OutB (w : World) (N : Nat) (bs : List Int) : Prop := ∃ L, OutAt w N L ∧ catR L = bs
theorem OutB.below {w w' : World} {N : Nat} {bs : List Int} (h : OutB w N bs) (hb : Below w.heap.size w w') : OutB w' N bs := by
  obtain ⟨L, h1, h2⟩ := h
  exact ⟨L, h1.below hb, h2⟩
def PutB (w : World) (N : Nat) (bs : List Int) (r : Ending) (w' : World) : Prop := r = .returned (.tuple #[]) ∧ OutB w' N bs ∧ w.grownBy w' (some N)
theorem putT_b (w : World) (N : Nat) (bs : List Int) (s : ByteArray) (h : OutB w N bs) (hs : s.size ≤ 16) (hl : bs.length ≤ 10000) :
    Calls Try.prog 40 #[.pointer (some ⟨N, 0, none⟩), .string s] w (PutB w N (bs ++ encT (ofS s))) := by
  obtain ⟨L, h1, rfl⟩ := h
  refine (outT_any w N L s (by omega) h1 ?_).mono ?_
  · have := encT_le s
    rw [show catR (encT (ofS s) :: L) = catR L ++ encT (ofS s) from rfl, List.length_append]
    omega
  · rintro r w' ⟨rfl, h2, h3⟩
    exact ⟨rfl, ⟨_, h2, rfl⟩, h3⟩
theorem putU_b (w : World) (N : Nat) (bs : List Int) (x : Nat) (h : OutB w N bs) (hx : x < 18446744073709551616) (hl : bs.length ≤ 10000) :
    Calls Try.prog 41 #[.pointer (some ⟨N, 0, none⟩), .int .u64 x] w (PutB w N (bs ++ encU x)) := by
  obtain ⟨L, h1, rfl⟩ := h
  refine (outU_any w N L x hx h1 ?_).mono ?_
  · have := (encU_len hx).2
    rw [show catR (encU x :: L) = catR L ++ encU x from rfl, List.length_append]
    omega
  · rintro r w' ⟨rfl, h2, h3⟩
    exact ⟨rfl, ⟨_, h2, rfl⟩, h3⟩
theorem put2_any (w : World) (N M : Nat) (bs : List Int) (z : Nat) (h : OutB w N bs) (hz : z ≤ 4294967295) (hl : bs.length ≤ 10000) (hM : w.cell? ⟨M, 0, none⟩ = some (.pointer (some ⟨N, 0, none⟩))) :
    Calls Try.prog 44 #[.int .u32 z, .pointer (some ⟨M, 0, none⟩)] w (PutB w N (bs ++ encU z)) := by
  have HU := Lib.hid (putU_b w N bs z h (by omega) hl)
  have i1 : IntKind.u64.wrap (z : Int) = (z : Int) := by rw [IntKind.wrap_u64]; omega
  generalize encU z = e at *
  clear h
  go_enter Try.func44, Try.ntmps44
  go_wp2_with fail
  refine (HU.out).mono ?_; rintro r w1 ⟨rfl, ho, hg⟩
  have HS := Lib.hid (And.intro ho hg)
  clear ho hg
  go_wp2_with fail
  go_end0
  exact ⟨rfl, HS.out.1, HS.out.2⟩
set_option maxHeartbeats 4000000 in
theorem put1_any (w : World) (N M : Nat) (bs : List Int) (x : ByteArray) (z : Nat) (h : OutB w N bs) (hx : x.size ≤ 16) (hz : z ≤ 4096) (hl : bs.length ≤ 9000) (hM : w.cell? ⟨M, 0, none⟩ = some (.pointer (some ⟨N, 0, none⟩))) (hne : M ≠ N) :
    Calls Try.prog 39 #[.agg #[.string x, .int .i64 z], .pointer (some ⟨M, 0, none⟩)] w (PutB w N (bs ++ (encT (ofS x) ++ encU z))) := by
  obtain ⟨W, hW⟩ : ∃ W, w.alloc (.cells #[.string x, .int .i64 z] 54) = W := ⟨_, rfl⟩
  have hb1 := below_one w (.cells #[.string x, .int .i64 z] 54)
  have hd : Dim2 (w.alloc (.cells #[.string x, .int .i64 z] 54)) w.heap.size x z := heap_alloc_new w _
  rw [hW] at hb1 hd
  obtain ⟨L, hL, -⟩ := id h
  have hNl := hL.lt
  have ht := encT_le x
  have HT := Lib.hid (putT_b W N bs x (h.below hb1) hx (by omega))
  have HU := Lib.hid (fun w1 (h : OutB w1 N (bs ++ encT (ofS x))) => putU_b w1 N _ z h (by omega) (by rw [List.length_append]; omega))
  have HG := Lib.hid (grown_below hb1 (some N))
  have HM := Lib.hid (cell_hold hb1 hM)
  have HD := Lib.hid hd
  have i1 : IntKind.u64.wrap (z : Int) = (z : Int) := by rw [IntKind.wrap_u64]; omega
  obtain ⟨c0, c1, -, -⟩ := hd.reads
  have m0 := HM.out
  have HE := Lib.hid (List.append_assoc bs (encT (ofS x)) (encU z))
  generalize encU z = e2 at *
  generalize encT (ofS x) = e1 at *
  clear h hb1 hd hL ht hM
  go_enter Try.func39, Try.ntmps39
  go_wp2_with fail
  refine (HT.out).mono ?_; rintro r w1 ⟨rfl, ho, hg⟩
  have HS := Lib.hid (And.intro ho (grown_then HG.out hg))
  have hd1 := HD.out.grown hg (by omega)
  obtain ⟨c0, c1, -, -⟩ := hd1.reads
  have m0 := cell_grown hg HM.out hne
  clear ho hg hd1
  go_wp2_with fail
  refine (HU.out _ HS.out.1).mono ?_; rintro r w2 ⟨rfl, ho, hg⟩
  have HS2 := Lib.hid (And.intro ho (grown_then HS.out.2 hg))
  clear ho hg c0 c1 m0
  go_wp2_with fail
  go_end0
  exact ⟨rfl, by rw [← HE.out]; exact HS2.out.1, HS2.out.2⟩
set_option maxHeartbeats 4000000 in
theorem putTexts_any (w0 w : World) (N : Nat) (v : Value) (l : List ByteArray) (bs : List Int) (hv : Strs w0 v l) (hw : Below w0.heap.size w0 w) (hN : w0.heap.size ≤ N) (h : OutB w N bs) (hs : ∀ s ∈ l, s.size ≤ 16) (hl : l.length ≤ 3) (hb : bs.length ≤ 2000) :
    Calls Try.prog 42 #[.pointer (some ⟨N, 0, none⟩), v, .func (.func 40) #[.pointer (some ⟨N, 0, none⟩)] #[]] w (PutB w N (bs ++ (encU l.length ++ encTs l))) := by
  have HU := Lib.hid (putU_b w N bs l.length h (by omega) (by omega))
  have hul := (encU_len (x := l.length) (by omega)).2
  have HL := Lib.hid (fun k => encTs_le hs k)
  have HT := Lib.hid (fun k (hk : k < l.length) wr X (hx : X.length ≤ 10000) (h : OutB wr N X) => putT_b wr N X (txt l k) h (by rw [txt_get hk]; exact hs _ (List.getElem_mem hk)) hx)
  have HN := Lib.hid (fun k (hk : k < l.length) => show encTs (l.take (k + 1)) = encTs (l.take k) ++ encT (ofS (txt l k)) by
    rw [List.take_add_one, List.getElem?_eq_getElem hk, txt_get hk]; exact encTs_snoc _ _)
  have HE := Lib.hid (show encTs (l.take l.length) = encTs l by rw [List.take_length])
  have HB := Lib.hid (fun wr (h : w.grownBy wr (some N)) => below_grown hw h hN)
  obtain ⟨a, cap, rfl, h1, h2, h3⟩ := hv
  have HC := Lib.hid h3
  have i1 : IntKind.u64.wrap (l.length : Int) = (l.length : Int) := by rw [IntKind.wrap_u64]; omega
  clear hs h3 h hw
  generalize encU l.length = X0 at *
  go_enter Try.func42, Try.ntmps42
  go_wp2_with fail
  refine (HU.out).mono ?_; rintro r w1 ⟨rfl, ho, hg⟩
  have HS0 := Lib.hid (And.intro ho hg)
  clear ho hg
  go_wp2_with fail
  go_loopw [15] (fun i wr => ∃ k : Nat, k ≤ l.length ∧ i = .int .i64 k ∧ Hid (OutB wr N (bs ++ X0 ++ encTs (l.take k)) ∧ w.grownBy wr (some N))) (fun i _ => l.length - (intOf i).toNat)
  case atStart => exact ⟨0, Nat.zero_le _, rfl, Lib.hid ⟨(show bs ++ X0 ++ encTs (l.take 0) = bs ++ X0 by simp [encTs]).symm ▸ HS0.out.1, HS0.out.2⟩⟩
  case round =>
    obtain ⟨k, hk, rfl, HS⟩ := hrel
    by_cases hlk : k < l.length
    · have hlk' : (k : Int) < (l.length : Int) := by omega
      rcases HC.out with h3 | ⟨b, off, rfl, hlt, hc⟩
      · rw [h3] at hlk; simp at hlk
      have hx : wr.cell? ⟨b, off + k, none⟩ = some (.string (txt l k)) := ((HB.out wr HS.out.2).cell (p := ⟨b, off + k, none⟩) hlt).trans (hc k hlk)
      have HTk := Lib.hid (HT.out k hlk wr _ (by have := HL.out k; simp only [List.length_append]; omega) HS.out.1)
      have HNk := Lib.hid (HN.out k hlk)
      clear hc
      generalize txt l k = x at *
      generalize encT (ofS x) = y at *
      generalize encTs (l.take k) = q at *
      go_wp2_with fail
      refine (HTk.out).mono ?_; rintro r w2 ⟨rfl, ho, hg⟩
      have HQ := Lib.hid (And.intro ho (grown_then HS.out.2 hg))
      clear ho hg hx
      go_wp2_with fail
      go_roundw
      case rel => exact ⟨k + 1, by omega, by go_num, Lib.hid ⟨by rw [HNk.out, ← List.append_assoc]; exact HQ.out.1, HQ.out.2⟩⟩
      case measure => simp [intOf]; omega
    · have hke : k = l.length := by omega
      subst hke
      have HS2 := HS.out
      rw [HE.out, List.append_assoc] at HS2
      have HS3 := Lib.hid HS2
      clear HS2
      go_wp2_with fail
      go_end0
      exact ⟨rfl, HS3.out.1, HS3.out.2⟩
set_option maxRecDepth 100000
open Go.RowKit
set_option linter.unusedVariables false
set_option maxHeartbeats 4000000 in
theorem putSets_any (w0 w : World) (N M : Nat) (v : Value) (l : List Int) (bs : List Int) (hv : Ints .u32 w0 v l) (hw : Below w0.heap.size w0 w) (hN : w0.heap.size ≤ N) (h : OutB w N bs) (hs : ∀ s ∈ l, 0 ≤ s ∧ s ≤ 4294967295) (hl : l.length ≤ 15) (hb : bs.length ≤ 2000) (hM : w.cell? ⟨M, 0, none⟩ = some (.pointer (some ⟨N, 0, none⟩))) (hne : M ≠ N) :
    Calls Try.prog 43 #[.pointer (some ⟨N, 0, none⟩), v, .func (.func 44) #[] #[.pointer (some ⟨M, 0, none⟩)]] w (PutB w N (bs ++ (encU l.length ++ encV l))) := by
  have HU := Lib.hid (putU_b w N bs l.length h (by omega) (by omega))
  have hul := (encU_len (x := l.length) (by omega)).2
  have HL := Lib.hid (fun k => encV_le hs k)
  have HT := Lib.hid (fun k (hk : k < l.length) wr X (hx : X.length ≤ 10000) (h : OutB wr N X) hM => put2_any wr N M X (l.getD k 0).toNat h (by
    have e : l.getD k 0 = l[k] := by simp [List.getD, hk]
    rw [e]; have := hs _ (List.getElem_mem hk); omega) hx hM)
  have HZ := Lib.hid (fun k (hk : k < l.length) => show 0 ≤ l.getD k 0 by
    have e : l.getD k 0 = l[k] := by simp [List.getD, hk]
    rw [e]; exact (hs _ (List.getElem_mem hk)).1)
  have HN := Lib.hid (fun k (hk : k < l.length) => show encV (l.take (k + 1)) = encV (l.take k) ++ encU (l.getD k 0).toNat by
    have e : l.getD k 0 = l[k] := by simp [List.getD, hk]
    rw [List.take_add_one, List.getElem?_eq_getElem hk, e]; exact encV_snoc _ _)
  have HE := Lib.hid (show encV (l.take l.length) = encV l by rw [List.take_length])
  have HB := Lib.hid (fun wr (h : w.grownBy wr (some N)) => below_grown hw h hN)
  have HM := Lib.hid hM
  obtain ⟨a, cap, rfl, h1, h3⟩ := hv
  have HC := Lib.hid h3
  have i1 : IntKind.u64.wrap (l.length : Int) = (l.length : Int) := by rw [IntKind.wrap_u64]; omega
  clear hs h3 h hw hM
  generalize encU l.length = X0 at *
  go_enter Try.func43, Try.ntmps43
  go_wp2_with fail
  refine (HU.out).mono ?_; rintro r w1 ⟨rfl, ho, hg⟩
  have HS0 := Lib.hid (And.intro ho hg)
  clear ho hg
  go_wp2_with fail
  go_loopw [15] (fun i wr => ∃ k : Nat, k ≤ l.length ∧ i = .int .i64 k ∧ Hid (OutB wr N (bs ++ X0 ++ encV (l.take k)) ∧ w.grownBy wr (some N))) (fun i _ => l.length - (intOf i).toNat)
  case atStart => exact ⟨0, Nat.zero_le _, rfl, Lib.hid ⟨(show bs ++ X0 ++ encV (l.take 0) = bs ++ X0 by simp [encV]).symm ▸ HS0.out.1, HS0.out.2⟩⟩
  case round =>
    obtain ⟨k, hk, rfl, HS⟩ := hrel
    by_cases hlk : k < l.length
    · have hlk' : (k : Int) < (l.length : Int) := by omega
      rcases HC.out with h3 | ⟨b, off, rfl, hlt, hc⟩
      · rw [h3] at hlk; simp at hlk
      have hx : wr.cell? ⟨b, off + k, none⟩ = some (.int .u32 (l.getD k 0)) := ((HB.out wr HS.out.2).cell (p := ⟨b, off + k, none⟩) hlt).trans (hc k hlk)
      have HTk := Lib.hid (HT.out k hlk wr _ (by have := HL.out k; simp only [List.length_append]; omega) HS.out.1 (cell_grown HS.out.2 HM.out hne))
      have HNk := Lib.hid (HN.out k hlk)
      have hz := HZ.out k hlk
      obtain ⟨Z, hZ⟩ : ∃ Z : Nat, l.getD k 0 = Z := ⟨(l.getD k 0).toNat, by omega⟩
      rw [hZ] at HTk HNk hx
      rw [Int.toNat_natCast] at HTk HNk
      clear hc hz hZ
      generalize encU Z = y at *
      generalize encV (l.take k) = q at *
      go_wp2_with fail
      refine (HTk.out).mono ?_; rintro r w2 ⟨rfl, ho, hg⟩
      have HQ := Lib.hid (And.intro ho (grown_then HS.out.2 hg))
      clear ho hg hx
      go_wp2_with fail
      go_roundw
      case rel => exact ⟨k + 1, by omega, by go_num, Lib.hid ⟨by rw [HNk.out, ← List.append_assoc]; exact HQ.out.1, HQ.out.2⟩⟩
      case measure => simp [intOf]; omega
    · have hke : k = l.length := by omega
      subst hke
      have HS2 := HS.out
      rw [HE.out, List.append_assoc] at HS2
      have HS3 := Lib.hid HS2
      clear HS2
      go_wp2_with fail
      go_end0
      exact ⟨rfl, HS3.out.1, HS3.out.2⟩
set_option maxHeartbeats 4000000 in
theorem putDims_any (w0 w : World) (N M : Nat) (v : Value) (l : List (ByteArray × Int)) (bs : List Int) (hv : Dims w0 v l) (hw : Below w0.heap.size w0 w) (hN : w0.heap.size ≤ N) (h : OutB w N bs) (hs : ∀ d ∈ l, d.1.size ≤ 16 ∧ 0 ≤ d.2 ∧ d.2 ≤ 4096) (hl : l.length ≤ 6) (hb : bs.length ≤ 2000) (hM : w.cell? ⟨M, 0, none⟩ = some (.pointer (some ⟨N, 0, none⟩))) (hne : M ≠ N) :
    Calls Try.prog 38 #[.pointer (some ⟨N, 0, none⟩), v, .func (.func 39) #[] #[.pointer (some ⟨M, 0, none⟩)]] w (PutB w N (bs ++ (encU l.length ++ encD l))) := by
  have HU := Lib.hid (putU_b w N bs l.length h (by omega) (by omega))
  have hul := (encU_len (x := l.length) (by omega)).2
  have HL := Lib.hid (fun k => encD_le hs k)
  obtain ⟨L, hL, -⟩ := id h
  have hNl := hL.lt
  have HT := Lib.hid (fun k (hk : k < l.length) wr X (hx : X.length ≤ 9000) (h : OutB wr N X) hM => put1_any wr N M X (dn l k) (dz l k).toNat h (by rw [dn_get hk]; exact (hs _ (List.getElem_mem hk)).1) (by rw [dz_get hk]; have := hs _ (List.getElem_mem hk); omega) hx hM hne)
  have HZ := Lib.hid (fun k (hk : k < l.length) => show 0 ≤ dz l k by
    rw [dz_get hk]; exact (hs _ (List.getElem_mem hk)).2.1)
  have HN := Lib.hid (fun k (hk : k < l.length) => show encD (l.take (k + 1)) = encD (l.take k) ++ (encT (ofS (dn l k)) ++ encU (dz l k).toNat) by
    rw [List.take_add_one, List.getElem?_eq_getElem hk, dn_get hk, dz_get hk]; exact encD_snoc _ _)
  have HE := Lib.hid (show encD (l.take l.length) = encD l by rw [List.take_length])
  have HB := Lib.hid (fun wr (h : w.grownBy wr (some N)) => below_grown hw h hN)
  have HM := Lib.hid hM
  obtain ⟨a, cap, rfl, h1, h2, h3⟩ := hv
  have HC := Lib.hid h3
  have i1 : IntKind.u64.wrap (l.length : Int) = (l.length : Int) := by rw [IntKind.wrap_u64]; omega
  clear hs h3 h hw hM hL
  generalize encU l.length = X0 at *
  go_enter Try.func38, Try.ntmps38
  go_wp2_with fail
  refine (HU.out).mono ?_; rintro r w1 ⟨rfl, ho, hg⟩
  have HS0 := Lib.hid (And.intro ho hg)
  clear ho hg
  go_wp2_with fail
  go_loopw [15] (fun i wr => ∃ k : Nat, k ≤ l.length ∧ i = .int .i64 k ∧ Hid (OutB wr N (bs ++ X0 ++ encD (l.take k)) ∧ w.grownBy wr (some N))) (fun i _ => l.length - (intOf i).toNat)
  case atStart => exact ⟨0, Nat.zero_le _, rfl, Lib.hid ⟨(show bs ++ X0 ++ encD (l.take 0) = bs ++ X0 by simp [encD]).symm ▸ HS0.out.1, HS0.out.2⟩⟩
  case round =>
    obtain ⟨k, hk, rfl, HS⟩ := hrel
    by_cases hlk : k < l.length
    · have hlk' : (k : Int) < (l.length : Int) := by omega
      rcases HC.out with h3 | ⟨b, off, rfl, hlt, hc⟩
      · rw [h3] at hlk; simp at hlk
      obtain ⟨c0, c1⟩ := hc k hlk
      have hbw := HB.out wr HS.out.2
      have c0 := cell_hold hbw c0
      have c1 := cell_hold hbw c1
      have hbd := fun (x : ByteArray) (z : Int) => below_one wr (.cells #[.string x, .int .i64 z] 54)
      have HTk := Lib.hid (fun x z => HT.out k hlk (wr.alloc (.cells #[.string x, .int .i64 z] 54)) _ (by have := HL.out k; simp only [List.length_append]; omega) (HS.out.1.below (hbd x z)) (cell_hold (hbd x z) (cell_grown HS.out.2 HM.out hne)))
      have HG := Lib.hid (fun x z => grown_then HS.out.2 (grown_below (hbd x z) (some N)))
      have HNk := Lib.hid (HN.out k hlk)
      have hz := HZ.out k hlk
      generalize dn l k = x at *
      obtain ⟨Z, hZ⟩ : ∃ Z : Nat, dz l k = Z := ⟨(dz l k).toNat, by omega⟩
      rw [hZ] at HTk HNk c1
      rw [Int.toNat_natCast] at HTk HNk
      clear hc hz hZ hbw hbd
      generalize encT (ofS x) ++ encU Z = y at *
      generalize encD (l.take k) = q at *
      go_wp2_with fail
      refine (HTk.out _ _).mono ?_; rintro r w2 ⟨rfl, ho, hg⟩
      have HQ := Lib.hid (And.intro ho (grown_then (HG.out _ _) hg))
      clear ho hg c0 c1
      go_wp2_with fail
      go_roundw
      case rel => exact ⟨k + 1, by omega, by go_num, Lib.hid ⟨by rw [HNk.out, ← List.append_assoc]; exact HQ.out.1, HQ.out.2⟩⟩
      case measure => simp [intOf]; omega
    · have hke : k = l.length := by omega
      subst hke
      have HS2 := HS.out
      rw [HE.out, List.append_assoc] at HS2
      have HS3 := Lib.hid HS2
      clear HS2
      go_wp2_with fail
      go_end0
      exact ⟨rfl, HS3.out.1, HS3.out.2⟩
set_option maxRecDepth 100000
open Go.RowKit
set_option linter.unusedVariables false
/-- What stands in memory while a schema is put: the writer, the variable that the closures hold, the schema's cells. -/
structure Pw (w w1 wr : World) (D I M V : Value) (bs : List Int) : Prop where
  o : OutB wr w1.heap.size bs
  m : wr.cell? ⟨w1.heap.size + 1, 0, none⟩ = some (.pointer (some ⟨w1.heap.size, 0, none⟩))
  k : wr.cell? ⟨w.heap.size, 0, none⟩ = some D ∧ wr.cell? ⟨w.heap.size, 1, none⟩ = some I ∧ wr.cell? ⟨w.heap.size, 2, none⟩ = some M ∧ wr.cell? ⟨w.heap.size, 3, none⟩ = some V
  g : Below w1.heap.size w1 wr
  lt : w.heap.size < w1.heap.size
theorem Pw.call {w w1 wr w' : World} {D I M V : Value} {bs bs' : List Int} (h : Pw w w1 wr D I M V bs) (ho : OutB w' w1.heap.size bs') (hg : wr.grownBy w' (some w1.heap.size)) : Pw w w1 w' D I M V bs' := by
  have hl := h.lt
  have q : ∀ j, (⟨w.heap.size, j, none⟩ : Addr).block ≠ w1.heap.size := fun j => by show w.heap.size ≠ _; omega
  exact ⟨ho, cell_grown hg h.m (by show w1.heap.size + 1 ≠ _; omega), ⟨cell_grown hg h.k.1 (q 0), cell_grown hg h.k.2.1 (q 1), cell_grown hg h.k.2.2.1 (q 2), cell_grown hg h.k.2.2.2 (q 3)⟩, below_grown h.g hg (Nat.le_refl _), hl⟩
theorem pw_start {w w1 : World} {D I M V : Value} (hk : w1.cell? ⟨w.heap.size, 0, none⟩ = some D ∧ w1.cell? ⟨w.heap.size, 1, none⟩ = some I ∧ w1.cell? ⟨w.heap.size, 2, none⟩ = some M ∧ w1.cell? ⟨w.heap.size, 3, none⟩ = some V) (hl : w.heap.size < w1.heap.size) :
    Pw w w1 ((w1.alloc (.cells #[.pointer none, .int .i64 0, .bool true] 100)).alloc (.cells #[.pointer (some ⟨w1.heap.size, 0, none⟩)] 64)) D I M V [] := by
  have hb2 := below_one (w1.alloc (.cells #[.pointer none, .int .i64 0, .bool true] 100)) (.cells #[.pointer (some ⟨w1.heap.size, 0, none⟩)] 64)
  have hb := below_then (below_one w1 (.cells #[.pointer none, .int .i64 0, .bool true] 100)) hb2
  have hz : (w1.alloc (.cells #[.pointer none, .int .i64 0, .bool true] 100)).heap.size = w1.heap.size + 1 := by simp
  have hn := heap_alloc_new (w1.alloc (.cells #[.pointer none, .int .i64 0, .bool true] 100)) (.cells #[.pointer (some ⟨w1.heap.size, 0, none⟩)] 64)
  rw [hz] at hn
  refine ⟨⟨[], (out_new w1).below hb2, rfl⟩, ?_, quad_hold hb hk, hb, hl⟩
  generalize (w1.alloc (.cells #[.pointer none, .int .i64 0, .bool true] 100)).alloc (.cells #[.pointer (some ⟨w1.heap.size, 0, none⟩)] 64) = W at hn ⊢
  simp [World.cell?, hn]
set_option maxHeartbeats 8000000 in
theorem put_any_no (w : World) (D I M V : Value) (S : Sc) (h : Sch4 w D I M V S) (hw : SWf S) (hc : checkL S ≠ 0) :
    Calls Try.prog 18 #[SchV D I M V] w fun r w' => r = .returned (.tuple #[.slice none 0 0, .int .i64 (checkL S)]) ∧ Below w.heap.size w w' := by
  have HB0 := Lib.hid (below_one w (SchO D I M V))
  have HC := Lib.hid (fun w1 (hb : Below w.heap.size w w1) => check_any w1 D I M V S (h.below hb) hw)
  obtain ⟨⟨a, c, rfl⟩, ⟨a2, c2, rfl⟩, ⟨a3, c3, rfl⟩, a4, c4, rfl⟩ := h.slices
  have hc2 : ((checkL S : Int) != 0) = true := by simp; omega
  generalize (checkL S : Int) = ck at *
  clear h hw hc
  go_enter Try.func18, Try.ntmps18
  go_wp2_with fail
  refine (HC.out _ HB0.out).mono ?_; rintro r w1 ⟨rfl, hb⟩
  have HB1 := Lib.hid (below_then HB0.out hb)
  clear hb
  go_wp2_with fail
  go_ret2
  exact ⟨rfl, HB1.out⟩
set_option maxHeartbeats 8000000 in
theorem put_any_yes (w : World) (D I M V : Value) (S : Sc) (h : Sch4 w D I M V S) (hw : SWf S) (hc : checkL S = 0) :
    Calls Try.prog 18 #[SchV D I M V] w fun r w' => (∃ v, r = .returned (.tuple #[v, .int .i64 0]) ∧ BOwn w' w.heap.size v (encS S)) ∧ Below w.heap.size w w' := by
  have hf := fit_of hc hw
  have HB0 := Lib.hid (below_one w (SchO D I M V))
  have HX := Lib.hid (box_new w D I M V)
  have HC := Lib.hid (fun w1 (hb : Below w.heap.size w w1) => check_any w1 D I M V S (h.below hb) hw)
  have HH := Lib.hid h
  obtain ⟨⟨n1, n2, n3, n4⟩, fd, fi, fn, fv⟩ := hf
  have u1 := (encU_len (x := S.ds.length) (by omega)).2
  have u2 := (encU_len (x := S.is.length) (by omega)).2
  have u3 := (encU_len (x := S.ns.length) (by omega)).2
  have u4 := (encU_len (x := S.vs.length) (by omega)).2
  have l1 := encD_le fd S.ds.length
  have l2 := encTs_le fi S.is.length
  have l3 := encTs_le fn S.ns.length
  have l4 := encV_le fv S.vs.length
  rw [List.take_length] at l1 l2 l3 l4
  have P1 := Lib.hid (fun w1 wr bs (hk : Pw w w1 wr D I M V bs) (hb : Below w.heap.size w w1) (hl : bs.length ≤ 2000) => putDims_any w1 wr w1.heap.size (w1.heap.size + 1) D S.ds bs (h.d.below hb) hk.g (Nat.le_refl _) hk.o fd n1 hl hk.m (by omega))
  have P2 := Lib.hid (fun w1 wr bs (hk : Pw w w1 wr D I M V bs) (hb : Below w.heap.size w w1) (hl : bs.length ≤ 2000) => putTexts_any w1 wr w1.heap.size I S.is bs (h.i.below hb) hk.g (Nat.le_refl _) hk.o fi n2 hl)
  have P3 := Lib.hid (fun w1 wr bs (hk : Pw w w1 wr D I M V bs) (hb : Below w.heap.size w w1) (hl : bs.length ≤ 2000) => putTexts_any w1 wr w1.heap.size M S.ns bs (h.n.below hb) hk.g (Nat.le_refl _) hk.o fn (by omega) hl)
  have P4 := Lib.hid (fun w1 wr bs (hk : Pw w w1 wr D I M V bs) (hb : Below w.heap.size w w1) (hl : bs.length ≤ 2000) => putSets_any w1 wr w1.heap.size (w1.heap.size + 1) V S.vs bs (h.v.below hb) hk.g (Nat.le_refl _) hk.o fv n4 hl hk.m (by omega))
  have HES := Lib.hid (show encS S = encU S.ds.length ++ encD S.ds ++ (encU S.is.length ++ encTs S.is) ++ (encU S.ns.length ++ encTs S.ns) ++ (encU S.vs.length ++ encV S.vs) from rfl)
  obtain ⟨T1, hT1⟩ : ∃ T, encU S.ds.length ++ encD S.ds = T := ⟨_, rfl⟩
  obtain ⟨T2, hT2⟩ : ∃ T, encU S.is.length ++ encTs S.is = T := ⟨_, rfl⟩
  obtain ⟨T3, hT3⟩ : ∃ T, encU S.ns.length ++ encTs S.ns = T := ⟨_, rfl⟩
  obtain ⟨T4, hT4⟩ : ∃ T, encU S.vs.length ++ encV S.vs = T := ⟨_, rfl⟩
  have t1 : T1.length ≤ 300 := by rw [← hT1, List.length_append]; omega
  have t2 : T2.length ≤ 120 := by rw [← hT2, List.length_append]; omega
  have t3 : T3.length ≤ 100 := by rw [← hT3, List.length_append]; omega
  have t4 : T4.length ≤ 200 := by rw [← hT4, List.length_append]; omega
  rw [hT1] at P1 HES
  rw [hT2] at P2 HES
  rw [hT3] at P3 HES
  rw [hT4] at P4 HES
  obtain ⟨⟨a, c, rfl⟩, ⟨a2, c2, rfl⟩, ⟨a3, c3, rfl⟩, a4, c4, rfl⟩ := h.slices
  rw [hc] at HC
  have HT := Lib.hid (And.intro t1 (And.intro t2 (And.intro t3 t4)))
  have HY := Lib.hid (fun w1 N bs (h : OutB w1 N bs) (hl : bs.length ≤ 2000000) => show Calls Try.prog 45 #[.pointer (some ⟨N, 0, none⟩)] w1 (BytesP w1 bs) by
    obtain ⟨L, h1, rfl⟩ := h
    exact bytes_any w1 N L h1 hl)
  clear h hw hc fd fi fn fv hT1 hT2 hT3 hT4 l1 l2 l3 l4 u1 u2 u3 u4 t1 t2 t3 t4
  go_enter Try.func18, Try.ntmps18
  go_wp2_with fail
  refine (HC.out _ HB0.out).mono ?_; rintro r w1 ⟨rfl, hb⟩
  have HB1 := Lib.hid (below_then HB0.out hb)
  have hs1 : w.heap.size < w1.heap.size := by have := hb.size; simp at this; omega
  have HP0 := Lib.hid (pw_start (w := w) (HX.out.below hb).reads hs1)
  clear hb
  go_wp2_with fail
  refine (newout_any _).mono ?_; rintro r w2 ⟨rfl, rfl⟩
  obtain ⟨x0, x1, x2, x3⟩ := HP0.out.k
  have m0 := HP0.out.m
  go_wp2_with fail
  refine (P1.out _ _ _ HP0.out HB1.out (by have := HT.out; simp only [List.length_nil]; omega)).mono ?_; rintro r w3 ⟨rfl, ho, hg⟩
  have HP1 := Lib.hid (HP0.out.call ho hg)
  clear ho hg x0 x1 x2 x3 m0
  obtain ⟨x0, x1, x2, x3⟩ := HP1.out.k
  have m0 := HP1.out.m
  go_wp2_with fail
  refine (P2.out _ _ _ HP1.out HB1.out (by have := HT.out; simp only [List.length_append, List.length_nil]; omega)).mono ?_; rintro r w4 ⟨rfl, ho, hg⟩
  have HP2 := Lib.hid (HP1.out.call ho hg)
  clear ho hg x0 x1 x2 x3 m0
  obtain ⟨x0, x1, x2, x3⟩ := HP2.out.k
  have m0 := HP2.out.m
  go_wp2_with fail
  refine (P3.out _ _ _ HP2.out HB1.out (by have := HT.out; simp only [List.length_append, List.length_nil]; omega)).mono ?_; rintro r w5 ⟨rfl, ho, hg⟩
  have HP3 := Lib.hid (HP2.out.call ho hg)
  clear ho hg x0 x1 x2 x3 m0
  obtain ⟨x0, x1, x2, x3⟩ := HP3.out.k
  have m0 := HP3.out.m
  go_wp2_with fail
  refine (P4.out _ _ _ HP3.out HB1.out (by have := HT.out; simp only [List.length_append, List.length_nil]; omega)).mono ?_; rintro r w6 ⟨rfl, ho, hg⟩
  have HP4 := Lib.hid (HP3.out.call ho hg)
  clear ho hg x0 x1 x2 x3 m0
  obtain ⟨x0, x1, x2, x3⟩ := HP4.out.k
  have m0 := HP4.out.m
  go_wp2_with fail
  refine (HY.out _ _ _ HP4.out.o (by have := HT.out; simp only [List.length_append, List.length_nil]; omega)).mono ?_; rintro r w7 ⟨⟨v, rfl, ho⟩, hb⟩
  have HO := Lib.hid (And.intro ho (below_then (below_then HB1.out HP4.out.g) hb))
  have hsz := HP4.out.g.size
  clear hb x0 x1 x2 x3 m0
  obtain ⟨pa, pl, pc, rfl⟩ := own_slice3 ho
  clear ho
  go_wp2_with fail
  go_ret2
  refine ⟨⟨_, rfl, ?_⟩, HO.out.2⟩
  rw [HES.out]
  exact own_mono HO.out.1 (by omega)
set_option maxRecDepth 100000
open Go.RowKit
set_option linter.unusedVariables false
theorem encD_bt : ∀ {ds : List (ByteArray × Int)}, (∀ d ∈ ds, d.1.size ≤ 16 ∧ 0 ≤ d.2 ∧ d.2 ≤ 4096) → Bt (encD ds)
  | [], _ => bt_nil
  | d :: ds, h => by
    rw [encD_cons]
    have h0 := h d (List.mem_cons_self ..)
    exact (encT_bt (ofS_bt d.1)).append ((encU_bt (by omega)).append (encD_bt fun x hx => h x (List.mem_cons_of_mem _ hx)))
theorem encTs_bt : ∀ (l : List ByteArray), Bt (encTs l)
  | [] => bt_nil
  | s :: l => by rw [encTs_cons]; exact (encT_bt (ofS_bt s)).append (encTs_bt l)
theorem encV_bt : ∀ {l : List Int}, (∀ v ∈ l, 0 ≤ v ∧ v ≤ 4294967295) → Bt (encV l)
  | [], _ => bt_nil
  | v :: l, h => by
    rw [encV_cons]
    have h0 := h v (List.mem_cons_self ..)
    exact (encU_bt (by omega)).append (encV_bt fun x hx => h x (List.mem_cons_of_mem _ hx))
theorem encS_bt {S : Sc} (hf : Fit S) : Bt (encS S) ∧ (encS S).length ≤ 20000 := by
  obtain ⟨⟨n1, n2, n3, n4⟩, fd, fi, fn, fv⟩ := hf
  have u1 := (encU_len (x := S.ds.length) (by omega)).2
  have u2 := (encU_len (x := S.is.length) (by omega)).2
  have u3 := (encU_len (x := S.ns.length) (by omega)).2
  have u4 := (encU_len (x := S.vs.length) (by omega)).2
  have l1 := encD_le fd S.ds.length
  have l2 := encTs_le fi S.is.length
  have l3 := encTs_le fn S.ns.length
  have l4 := encV_le fv S.vs.length
  rw [List.take_length] at l1 l2 l3 l4
  unfold encS
  refine ⟨((((encU_bt (by omega)).append (encD_bt fd)).append ((encU_bt (by omega)).append (encTs_bt _))).append ((encU_bt (by omega)).append (encTs_bt _))).append ((encU_bt (by omega)).append (encV_bt fv)), ?_⟩
  simp only [List.length_append]
  omega
end Go.Proofs.Ytdlebcjkokabjaa
