/- Layer 17: the program's Cover and Steps. -/
import Derived.Test.YtdopgpijbilffaaLatj
namespace Go.Proofs.Ytdopgpijbilffaa
set_option maxRecDepth 100000
open Go.RowKit
set_option linter.unusedVariables false
/-- The sizes: numbers as they came in. -/
abbrev Szs (w : World) (v : Value) (ns : List Int) : Prop := Ints .i64 w v ns
theorem Szs.len {w : World} {v : Value} {ns : List Int} (h : Szs w v ns) : ∃ a cap, v = .slice a ns.length cap := by
  obtain ⟨a, cap, rfl, -⟩ := h
  exact ⟨a, cap, rfl⟩
theorem sz_past {ns : List Int} {i : Nat} (h : ¬ i < ns.length) : szN ns i = 0 := by
  unfold szN
  rw [List.getD_eq_getElem?_getD, List.getElem?_eq_none (by omega)]
  rfl
theorem psize17_any (w : World) (v : Value) (ns : List Int) (i : Nat) (h : Szs w v ns) :
    Calls Try.prog 44 #[v, .int .i64 i] w fun e w' => e = .returned (.int .i64 (szN ns i)) ∧ w = w' := by
  obtain ⟨a, cap, rfl⟩ := h.len
  by_cases hl : i < ns.length
  · obtain ⟨b, off, rfl, -, hc⟩ := Ints.cell h hl
    have hl' : (i : Int) < (ns.length : Int) := by omega
    have hr : szN ns i = ns.getD i 0 := rfl
    rw [hr]
    clear hr h
    generalize ns.getD i 0 = r at *
    go_enter Try.func44, Try.ntmps44
    go_wp2_with fail
    go_ret
    exact ⟨rfl, rfl⟩
  · rw [sz_past hl]
    have hl' : ¬ (i : Int) < (ns.length : Int) := by omega
    have hl2 : (ns.length : Int) ≤ (i : Int) := by omega
    clear h
    go_enter Try.func44, Try.ntmps44
    go_wp2_with fail
    go_ret
    exact ⟨rfl, rfl⟩
theorem rsize17_any (w : World) (v : Value) (ns : List Int) (i : Nat) (h : Szs w v ns) :
    Calls Try.prog 34 #[v, .int .i64 i] w fun e w' => e = .returned (.int .i64 (szN ns i)) ∧ w = w' := by
  obtain ⟨a, cap, rfl⟩ := h.len
  by_cases hl : i < ns.length
  · obtain ⟨b, off, rfl, -, hc⟩ := Ints.cell h hl
    have hl' : (i : Int) < (ns.length : Int) := by omega
    have hr : szN ns i = ns.getD i 0 := rfl
    rw [hr]
    clear hr h
    generalize ns.getD i 0 = r at *
    go_enter Try.func34, Try.ntmps34
    go_wp2_with fail
    go_ret
    exact ⟨rfl, rfl⟩
  · rw [sz_past hl]
    have hl' : ¬ (i : Int) < (ns.length : Int) := by omega
    have hl2 : (ns.length : Int) ≤ (i : Int) := by omega
    clear h
    go_enter Try.func34, Try.ntmps34
    go_wp2_with fail
    go_ret
    exact ⟨rfl, rfl⟩
/-- Which views fit: for Cover, for Steps. -/
def fitC (l : List Nat) (need : Nat) (i : Nat) : Bool := subN need (l.getD i 0)
def fitS (l : List Nat) (need : Nat) (i : Nat) : Bool := !decide (l.getD i 0 = need) && subN need (l.getD i 0)
set_option maxHeartbeats 1000000 in
theorem cover1_any (w : World) (N need x : Nat) (hn : need < 4294967296) (hx : x < 4294967296) (hc : w.cell? ⟨N, 0, none⟩ = some (.int .u32 (need : Int))) :
    Calls Try.prog 33 #[.int .u32 x, .pointer (some ⟨N, 0, none⟩)] w fun e w' => e = .returned (.bool (subN need x)) ∧ w = w' := by
  have H := Lib.hid (psub_any w need x hn hx)
  generalize subN need x = r at *
  go_enter Try.func33, Try.ntmps33
  go_wp2_with fail
  refine (H.out).mono ?_; rintro e w1 ⟨rfl, rfl⟩
  go_wp2_with fail
  go_ret
  exact ⟨rfl, rfl⟩
set_option maxHeartbeats 1000000 in
theorem steps1_any (w : World) (N need x : Nat) (hn : need < 4294967296) (hx : x < 4294967296) (hc : w.cell? ⟨N, 0, none⟩ = some (.int .u32 (need : Int))) :
    Calls Try.prog 35 #[.int .u32 x, .pointer (some ⟨N, 0, none⟩)] w fun e w' => e = .returned (.bool (!decide (x = need) && subN need x)) ∧ w = w' := by
  have H := Lib.hid (psub_any w need x hn hx)
  by_cases hq : x = need
  · rw [decide_eq_true hq]
    have hq' : ((x : Int) != (need : Int)) = false := by simp [hq]
    clear hq H
    generalize subN need x = r at *
    go_enter Try.func35, Try.ntmps35
    go_wp2_with fail
    go_ret
    exact ⟨rfl, rfl⟩
  · rw [decide_eq_false hq]
    have hq' : ((x : Int) != (need : Int)) = true := by simp; omega
    clear hq
    generalize subN need x = r at *
    go_enter Try.func35, Try.ntmps35
    go_wp2_with fail
    refine (H.out).mono ?_; rintro e w1 ⟨rfl, rfl⟩
    go_wp2_with fail
    go_ret
    exact ⟨by simp, rfl⟩
set_option maxHeartbeats 4000000 in
theorem smallC_any (w : World) (v s : Value) (l : List Nat) (ns : List Int) (N need : Nat) (hv : Msk w v l) (hs : Szs w s ns) (hb : Bd l) (hn : need < 4294967296) (hc : w.cell? ⟨N, 0, none⟩ = some (.int .u32 (need : Int))) (hl : l.length ≤ 1000000) :
    Calls Try.prog 32 #[v, s, .func (.func 33) #[] #[.pointer (some ⟨N, 0, none⟩)]] w fun e w' => (∃ r, e = .returned (.int .i64 r) ∧ SmP (fitC l need) (szN ns) 0 l.length r) ∧ w = w' := by
  have HV := Lib.hid hv
  have HF := Lib.hid (fun k => cover1_any w N need (l.getD k 0) hn (hb.getD k) hc)
  have HZ := Lib.hid (fun i => psize17_any w s ns i hs)
  obtain ⟨p, cap, rfl⟩ := hv.len
  obtain ⟨q, qc, rfl⟩ := hs.len
  have HR := Lib.hid (fun k (r : Int) (h : SmP (fitC l need) (szN ns) 0 k r) => h.range)
  have HSk := Lib.hid (fun k (r : Int) (h : SmP (fitC l need) (szN ns) 0 k r) (hf : fitC l need k = false) => h.skip hf)
  have HTk := Lib.hid (fun k (r : Int) (h : SmP (fitC l need) (szN ns) 0 k r) (hf : fitC l need k = true) hs => h.take hf hs)
  have HKp := Lib.hid (fun k (i : Nat) (h : SmP (fitC l need) (szN ns) 0 k i) hs => h.keep hs)
  have H0 := Lib.hid (SmP.start (fitC l need) (szN ns) 0)
  have HFI := Lib.hid (fun k => show fitC l need k = _ from rfl)
  clear hv hs hb
  go_enter Try.func32, Try.ntmps32
  go_wp2_with fail
  go_loopw [12, 7] (fun iv bv wr => ∃ (k : Nat) (r : Int), k ≤ l.length ∧ iv = .int .i64 k ∧ bv = .int .i64 r ∧ wr = w ∧ Hid (SmP (fitC l need) (szN ns) 0 k r)) (fun iv _ _ => l.length - (intOf iv).toNat)
  case atStart => exact ⟨0, -1, Nat.zero_le _, rfl, rfl, by trivial, H0⟩
  case round =>
    obtain ⟨k, r, hk, rfl, rfl, rfl, HS⟩ := hrel
    by_cases hlt : k < l.length
    · have hlt' : (k : Int) < (l.length : Int) := by omega
      obtain ⟨b0, off, rfl, hc0⟩ := Msk.at HV.out hlt
      have HFk := Lib.hid (HF.out k)
      have HIk := Lib.hid (HFI.out k)
      unfold fitC at HIk
      have HIk2 := Lib.hid HIk.out
      obtain ⟨hr0, hr1, hr2⟩ := HR.out k r HS.out
      have HZk := Lib.hid (HZ.out k)
      have HSkk := Lib.hid (HSk.out k r HS.out)
      have HTkk := Lib.hid (HTk.out k r HS.out)
      clear HIk HF HFI
      generalize hfk : fitC l need k = f at *
      have HFR := Lib.hid (show Calls Try.prog 33 #[.int .u32 ((l.getD k 0 : Nat) : Int), .pointer (some ⟨N, 0, none⟩)] wr fun e w' => e = .returned (.bool f) ∧ wr = w' from by
        have h1 := HFk.out
        rw [← hfk]
        exact h1)
      clear HFk HIk2 hfk
      generalize l.getD k 0 = x at *
      go_wp2_with fail
      refine (HFR.out).mono ?_; rintro e w1 ⟨rfl, rfl⟩
      cases f with
      | false =>
        have HN := Lib.hid (HSkk.out (by first | rfl | trivial))
        clear HSkk HTkk HZk HFR
        go_wp2_with fail
        go_roundw
        case rel => exact ⟨k + 1, r, by omega, by go_num, rfl, by trivial, HN⟩
        case measure => simp [intOf]; omega
      | true =>
        by_cases hneg : r < 0
        · have HN := Lib.hid (HTkk.out (by first | rfl | trivial) (fun i e => by omega))
          clear HSkk HTkk HZk HFR
          go_wp2_with fail
          go_roundw
          case rel => exact ⟨k + 1, k, by omega, by go_num, rfl, by trivial, HN⟩
          case measure => simp [intOf]; omega
        · obtain ⟨i, rfl⟩ : ∃ i : Nat, r = i := ⟨r.toNat, by omega⟩
          have HZi := Lib.hid (HZ.out i)
          have HKk := Lib.hid (HKp.out k i HS.out)
          have hneg' : ¬ (i : Int) < 0 := by omega
          generalize hzk : szN ns k = zk at *
          generalize hzi : szN ns i = zi at *
          go_wp2_with fail
          refine (HZk.out).mono ?_; rintro e w1 ⟨rfl, rfl⟩
          go_wp2_with fail
          refine (HZi.out).mono ?_; rintro e w1 ⟨rfl, rfl⟩
          by_cases hz : zk < zi
          · have HN := Lib.hid (HTkk.out (by first | rfl | trivial) (fun j e => by
              have : j = i := by omega
              subst this
              rw [hzi]; exact hz))
            clear HSkk HTkk HZk HZi HFR HKk
            go_wp2_with fail
            go_roundw
            case rel => exact ⟨k + 1, k, by omega, by go_num, rfl, by trivial, HN⟩
            case measure => simp [intOf]; omega
          · have HN := Lib.hid (HKk.out (by omega))
            clear HSkk HTkk HZk HZi HFR HKk
            go_wp2_with fail
            go_roundw
            case rel => exact ⟨k + 1, i, by omega, by go_num, rfl, by trivial, HN⟩
            case measure => simp [intOf]; omega
    · have hkn : k = l.length := by omega
      subst hkn
      have hlt' : ¬ (l.length : Int) < (l.length : Int) := by omega
      have HX := Lib.hid HS.out
      clear HS HR HSk HTk HKp
      go_wp2_with fail
      go_ret
      exact ⟨⟨r, rfl, HX.out⟩, rfl⟩
set_option maxHeartbeats 4000000 in
theorem smallS_any (w : World) (v s : Value) (l : List Nat) (ns : List Int) (N need : Nat) (hv : Msk w v l) (hs : Szs w s ns) (hb : Bd l) (hn : need < 4294967296) (hc : w.cell? ⟨N, 0, none⟩ = some (.int .u32 (need : Int))) (hl : l.length ≤ 1000000) :
    Calls Try.prog 32 #[v, s, .func (.func 35) #[] #[.pointer (some ⟨N, 0, none⟩)]] w fun e w' => (∃ r, e = .returned (.int .i64 r) ∧ SmP (fitS l need) (szN ns) 0 l.length r) ∧ w = w' := by
  have HV := Lib.hid hv
  have HF := Lib.hid (fun k => steps1_any w N need (l.getD k 0) hn (hb.getD k) hc)
  have HZ := Lib.hid (fun i => psize17_any w s ns i hs)
  obtain ⟨p, cap, rfl⟩ := hv.len
  obtain ⟨q, qc, rfl⟩ := hs.len
  have HR := Lib.hid (fun k (r : Int) (h : SmP (fitS l need) (szN ns) 0 k r) => h.range)
  have HSk := Lib.hid (fun k (r : Int) (h : SmP (fitS l need) (szN ns) 0 k r) (hf : fitS l need k = false) => h.skip hf)
  have HTk := Lib.hid (fun k (r : Int) (h : SmP (fitS l need) (szN ns) 0 k r) (hf : fitS l need k = true) hs => h.take hf hs)
  have HKp := Lib.hid (fun k (i : Nat) (h : SmP (fitS l need) (szN ns) 0 k i) hs => h.keep hs)
  have H0 := Lib.hid (SmP.start (fitS l need) (szN ns) 0)
  have HFI := Lib.hid (fun k => show fitS l need k = _ from rfl)
  clear hv hs hb
  go_enter Try.func32, Try.ntmps32
  go_wp2_with fail
  go_loopw [12, 7] (fun iv bv wr => ∃ (k : Nat) (r : Int), k ≤ l.length ∧ iv = .int .i64 k ∧ bv = .int .i64 r ∧ wr = w ∧ Hid (SmP (fitS l need) (szN ns) 0 k r)) (fun iv _ _ => l.length - (intOf iv).toNat)
  case atStart => exact ⟨0, -1, Nat.zero_le _, rfl, rfl, by trivial, H0⟩
  case round =>
    obtain ⟨k, r, hk, rfl, rfl, rfl, HS⟩ := hrel
    by_cases hlt : k < l.length
    · have hlt' : (k : Int) < (l.length : Int) := by omega
      obtain ⟨b0, off, rfl, hc0⟩ := Msk.at HV.out hlt
      have HFk := Lib.hid (HF.out k)
      have HIk := Lib.hid (HFI.out k)
      unfold fitS at HIk
      have HIk2 := Lib.hid HIk.out
      obtain ⟨hr0, hr1, hr2⟩ := HR.out k r HS.out
      have HZk := Lib.hid (HZ.out k)
      have HSkk := Lib.hid (HSk.out k r HS.out)
      have HTkk := Lib.hid (HTk.out k r HS.out)
      clear HIk HF HFI
      generalize hfk : fitS l need k = f at *
      have HFR := Lib.hid (show Calls Try.prog 35 #[.int .u32 ((l.getD k 0 : Nat) : Int), .pointer (some ⟨N, 0, none⟩)] wr fun e w' => e = .returned (.bool f) ∧ wr = w' from by
        have h1 := HFk.out
        rw [← hfk]
        exact h1)
      clear HFk HIk2 hfk
      generalize l.getD k 0 = x at *
      go_wp2_with fail
      refine (HFR.out).mono ?_; rintro e w1 ⟨rfl, rfl⟩
      cases f with
      | false =>
        have HN := Lib.hid (HSkk.out (by first | rfl | trivial))
        clear HSkk HTkk HZk HFR
        go_wp2_with fail
        go_roundw
        case rel => exact ⟨k + 1, r, by omega, by go_num, rfl, by trivial, HN⟩
        case measure => simp [intOf]; omega
      | true =>
        by_cases hneg : r < 0
        · have HN := Lib.hid (HTkk.out (by first | rfl | trivial) (fun i e => by omega))
          clear HSkk HTkk HZk HFR
          go_wp2_with fail
          go_roundw
          case rel => exact ⟨k + 1, k, by omega, by go_num, rfl, by trivial, HN⟩
          case measure => simp [intOf]; omega
        · obtain ⟨i, rfl⟩ : ∃ i : Nat, r = i := ⟨r.toNat, by omega⟩
          have HZi := Lib.hid (HZ.out i)
          have HKk := Lib.hid (HKp.out k i HS.out)
          have hneg' : ¬ (i : Int) < 0 := by omega
          generalize hzk : szN ns k = zk at *
          generalize hzi : szN ns i = zi at *
          go_wp2_with fail
          refine (HZk.out).mono ?_; rintro e w1 ⟨rfl, rfl⟩
          go_wp2_with fail
          refine (HZi.out).mono ?_; rintro e w1 ⟨rfl, rfl⟩
          by_cases hz : zk < zi
          · have HN := Lib.hid (HTkk.out (by first | rfl | trivial) (fun j e => by
              have : j = i := by omega
              subst this
              rw [hzi]; exact hz))
            clear HSkk HTkk HZk HZi HFR HKk
            go_wp2_with fail
            go_roundw
            case rel => exact ⟨k + 1, k, by omega, by go_num, rfl, by trivial, HN⟩
            case measure => simp [intOf]; omega
          · have HN := Lib.hid (HKk.out (by omega))
            clear HSkk HTkk HZk HZi HFR HKk
            go_wp2_with fail
            go_roundw
            case rel => exact ⟨k + 1, i, by omega, by go_num, rfl, by trivial, HN⟩
            case measure => simp [intOf]; omega
    · have hkn : k = l.length := by omega
      subst hkn
      have hlt' : ¬ (l.length : Int) < (l.length : Int) := by omega
      have HX := Lib.hid HS.out
      clear HS HR HSk HTk HKp
      go_wp2_with fail
      go_ret
      exact ⟨⟨r, rfl, HX.out⟩, rfl⟩
set_option maxHeartbeats 1000000 in
theorem pcover_any (w : World) (v s : Value) (l : List Nat) (ns : List Int) (need : Nat) (hv : Msk w v l) (hs : Szs w s ns) (hb : Bd l) (hn : need < 4294967296) (hl : l.length ≤ 1000000) :
    Calls Try.prog 17 #[v, s, .int .u32 need] w fun e w' => (∃ r, e = .returned (.int .i64 r) ∧ SmP (fitC l need) (szN ns) 0 l.length r) ∧ Below w.heap.size w w' := by
  have hB := below_one w (.cells #[.int .u32 (need : Int)] 22)
  have HS := Lib.hid (smallC_any (w.alloc (.cells #[.int .u32 (need : Int)] 22)) v s l ns w.heap.size need (hv.below hB) (hs.below hB) hb hn (by simp [go_sem]) hl)
  have HB := Lib.hid hB
  obtain ⟨p, cap, rfl⟩ := hv.len
  obtain ⟨q, qc, rfl⟩ := hs.len
  clear hv hs hb hB
  go_enter Try.func17, Try.ntmps17
  go_wp2_with fail
  refine (HS.out).mono ?_; rintro e w1 ⟨⟨r, rfl, hr⟩, rfl⟩
  have HR := Lib.hid hr
  clear hr HS
  go_wp2_with fail
  go_ret
  exact ⟨⟨r, rfl, HR.out⟩, HB.out⟩
def intsE (l : List Int) : List Value := l.map (Value.int .i64)
theorem infoI17 : (Try.prog.info? 3).map (fun i => (i.zero, i.size, i.bytes)) = some (some (.int .i64 0), 1, 8) := by kernel_rfl
theorem intsE_set (l : List Int) (i : Nat) (x : Int) : (intsE l).set i (.int .i64 x) = intsE (l.set i x) := by simp [intsE, List.map_set]
theorem intsE_get (l : List Int) {i : Nat} (hi : i < l.length) : (intsE l).getD i undef = .int .i64 (l.getD i 0) := by simp [intsE, List.getD, hi]
theorem intsE_len (l : List Int) : (intsE l).length = l.length := by simp [intsE]
theorem intsE_zero (n : Nat) : List.replicate n (Value.int .i64 0) = intsE (List.replicate n 0) := by simp [intsE]
theorem getD_setI (l : List Int) (i : Nat) (x : Int) (j : Nat) (hi : i < l.length) : (l.set i x).getD j 0 = if j = i then x else l.getD j 0 := by
  simp only [List.getD_eq_getElem?_getD, List.getElem?_set]
  by_cases h : i = j
  · subst h; simp [hi]
  · rw [if_neg h, if_neg (fun e => h e.symm)]
theorem ints_row {w : World} {V : Nat} {zs : List Int} (h : RowE w V 3 (intsE zs)) (hl : zs.length ≤ 1000000) : Ints .i64 w (.slice (some ⟨V, 0, none⟩) zs.length zs.length) zs := by
  have h1 := h.own (Nat.le_refl V) (by rw [intsE_len]; exact hl)
  rw [intsE_len] at h1
  exact Ints.own h1
set_option maxHeartbeats 4000000 in
theorem psteps_any (w : World) (v s : Value) (l : List Nat) (ns : List Int) (hv : Msk w v l) (hs : Szs w s ns) (hb : Bd l) (hl : l.length ≤ 1000) :
    Calls Try.prog 19 #[v, s] w fun e w' => (∃ u zs, e = .returned u ∧ Ints .i64 w' u zs ∧ zs.length = l.length ∧ ∀ k, k < l.length → SmP (fitS l (l.getD k 0)) (szN ns) 0 l.length (zs.getD k 0)) ∧ Below w.heap.size w w' := by
  obtain ⟨i0, hi, hz0, hz1, hz2⟩ := info_parts infoI17
  have HV := Lib.hid hv
  have HZ := Lib.hid hs
  have HB := Lib.hid hb
  have HSm := Lib.hid (fun w1 N need hv hs hn hc => smallS_any w1 v s l ns N need hv hs hb hn hc (by omega))
  obtain ⟨p, cap, rfl⟩ := hv.len
  obtain ⟨q, qc, rfl⟩ := hs.len
  clear hv hs hb
  go_enter Try.func19, Try.ntmps19
  go_wp2_with (at_make; refine wpList_make_full _ rfl _ _ 34 rfl w.heap.size 3 i0 (.int .i64 0) 1 Try.underlying34 hi hz0 hz1 .i64 .i64 _ _ l.length rfl rfl rfl rfl (by rw [hz2]; omega) (by unfold maxLen; omega) (Nat.le_refl _) ?_; intro w1 hown hgrow; have HR0 := Lib.hid (rowE_made hown); have HB0 := Lib.hid (show Below w.heap.size w w1 from ⟨hgrow.os, hgrow.tape, hgrow.output, hgrow.size, fun j hj => hgrow.block j hj (by simp)⟩); clear hown hgrow)
  go_loopw [13] (fun iv wr => ∃ k : Nat, k ≤ l.length ∧ iv = .int .i64 k ∧ Hid (∃ zs : List Int, zs.length = l.length ∧ RowE wr w.heap.size 3 (intsE zs) ∧ ∀ j, j < k → SmP (fitS l (l.getD j 0)) (szN ns) 0 l.length (zs.getD j 0)) ∧ Hid (Below w.heap.size w wr)) (fun iv _ => l.length - (intOf iv).toNat)
  case atStart => exact ⟨0, Nat.zero_le _, rfl, Lib.hid ⟨List.replicate l.length 0, List.length_replicate, by rw [← intsE_zero]; exact HR0.out, fun j hj => by omega⟩, HB0⟩
  case round =>
    obtain ⟨k, hk, rfl, HJ, HW⟩ := hrel
    by_cases hlt : k < l.length
    · have hlt' : (k : Int) < (l.length : Int) := by omega
      obtain ⟨b0, off, rfl, hc0⟩ := Msk.at (HV.out.below HW.out) hlt
      have hx := HB.out.getD k
      have hB2 := below_one wr (.cells #[.int .u32 ((l.getD k 0 : Nat) : Int)] 22)
      have HW2 := Lib.hid (below_then HW.out hB2)
      have HC := Lib.hid (HSm.out (wr.alloc (.cells #[.int .u32 ((l.getD k 0 : Nat) : Int)] 22)) wr.heap.size _ (HV.out.below HW2.out) (HZ.out.below HW2.out) hx (by simp [go_sem]))
      obtain ⟨zs, hzl, hrow, hzs⟩ := HJ.out
      have hrow2 := hrow.keep hB2
      have hat := hrow2.at (i := k) (by rw [intsE_len]; omega)
      rw [intsE_get zs (by omega)] at hat
      obtain ⟨hc1, hf1⟩ := hat
      have HI := Lib.hid (And.intro hzl (And.intro hrow2 hzs))
      clear hzl hrow hrow2 hzs hB2 HJ
      generalize hxx : l.getD k 0 = x at *
      generalize zs.getD k 0 = z0 at *
      go_wp2_with fail
      refine (HC.out).mono ?_; rintro e w2 ⟨⟨r, rfl, hr⟩, rfl⟩
      have HJ2 := Lib.hid (show ∃ zs : List Int, zs.length = l.length ∧ RowE ((wr.alloc (.cells #[.int .u32 (x : Int)] 22)).setCell ⟨w.heap.size, k, none⟩ (.int .i64 r)) w.heap.size 3 (intsE zs) ∧ ∀ j, j < k + 1 → SmP (fitS l (l.getD j 0)) (szN ns) 0 l.length (zs.getD j 0) from
        ⟨zs.set k r, by rw [List.length_set]; exact HI.out.1, by rw [← intsE_set]; exact HI.out.2.1.set _, fun j hj => by
          rw [getD_setI zs k r j (by rw [HI.out.1]; exact hlt)]
          by_cases e : j = k
          · rw [if_pos e, e, hxx]; exact hr
          · rw [if_neg e]; exact HI.out.2.2 j (by omega)⟩)
      have HW3 := Lib.hid (HW2.out.setCell (p := ⟨w.heap.size, k, none⟩) (Nat.le_refl _) (.int .i64 r))
      clear hr HI HC HW2 HW hxx
      go_wp2_with fail
      go_roundw
      case rel => exact ⟨k + 1, by omega, by go_num, HJ2, HW3⟩
      case measure => simp [intOf]; omega
    · have hkn : k = l.length := by omega
      subst hkn
      have hlt' : ¬ (l.length : Int) < (l.length : Int) := by omega
      obtain ⟨zs, hzl, hrow, hzs⟩ := HJ.out
      have HI := Lib.hid (ints_row hrow (by rw [hzl]; exact Nat.le_trans hl (by decide)))
      have HX := Lib.hid (And.intro hzl hzs)
      clear hzl hrow hzs HJ
      go_wp2_with fail
      go_ret
      have h1 := HI.out
      rw [HX.out.1] at h1
      exact ⟨⟨_, rfl, zs, h1, HX.out.1, HX.out.2⟩, HW.out⟩
end Go.Proofs.Ytdopgpijbilffaa
