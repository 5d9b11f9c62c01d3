/- Layer 17: the reference's Cover and Between. -/
import Derived.Test.YtdopgpijbilffaaLatm
namespace Go.Proofs.Ytdopgpijbilffaa
set_option maxRecDepth 100000
open Go.RowKit
set_option linter.unusedVariables false
set_option maxHeartbeats 8000000 in
theorem rcoverC_any (w : World) (v s : Value) (l : List Nat) (ns : List Int) (need : Nat) (hv : Msk w v l) (hs : Szs w s ns) (hb : Bd l) (hn : need < 4294967296) (hl : l.length ≤ 1000000) :
    Calls Try.prog 18 #[v, s, .int .u32 need, .bool false] w fun e w' => (∃ r, e = .returned (.int .i64 r) ∧ SmP (fitC l need) (szN ns) 0 l.length r) ∧ w = w' := by
  have HV := Lib.hid hv
  have HF := Lib.hid (fun k => rsub17_any w need (l.getD k 0) hn (hb.getD k))
  have HZ := Lib.hid (fun i => rsize17_any w s ns i hs)
  obtain ⟨p, cap, rfl⟩ := hv.len
  obtain ⟨q, qc, rfl⟩ := hs.len
  have HR := Lib.hid (fun k (r : Int) (h : SmP (fitC l need) (szN ns) k l.length r) => h.range)
  have HSk := Lib.hid (fun k (r : Int) (h : SmP (fitC l need) (szN ns) (k + 1) l.length r) (hf : fitC l need k = false) => h.rskip hf)
  have HTk := Lib.hid (fun k (r : Int) (h : SmP (fitC l need) (szN ns) (k + 1) l.length r) (hk : k < l.length) (hf : fitC l need k = true) hs => h.rtake hk hf hs)
  have HKp := Lib.hid (fun k (i : Nat) (h : SmP (fitC l need) (szN ns) (k + 1) l.length i) hs => h.rkeep hs)
  have H0 := Lib.hid (SmP.start (fitC l need) (szN ns) l.length)
  have HFJ := Lib.hid (fun k => show fitC l need k = (subN need (l.getD k 0)) from rfl)
  generalize fitC l need = fit at *
  clear hv hs hb
  go_enter Try.func18, Try.ntmps18
  go_wp2_with fail
  go_loopw [10, 9] (fun iv bv wr => ∃ (t : Nat) (z r : Int), t ≤ l.length ∧ iv = .int .i64 z ∧ z + 1 = t ∧ bv = .int .i64 r ∧ wr = w ∧ Hid (SmP fit (szN ns) t l.length r)) (fun iv _ _ => (intOf iv + 1).toNat)
  case atStart => exact ⟨l.length, _, -1, Nat.le_refl _, rfl, by omega, rfl, by trivial, H0⟩
  case round =>
    obtain ⟨t, z, r, ht, rfl, hz, rfl, rfl, HS⟩ := hrel
    by_cases hlt : 0 < t
    · obtain ⟨k, rfl⟩ : ∃ k, t = k + 1 := ⟨t - 1, by omega⟩
      obtain rfl : z = (k : Int) := by omega
      have hlt' : (0 : Int) ≤ (k : Int) := by omega
      have hk : k < l.length := by omega
      have hk' : (k : Int) < (l.length : Int) := by omega
      obtain ⟨b0, off, rfl, hc0⟩ := Msk.at HV.out hk
      have HFk := Lib.hid (HF.out k)
      have HIk := Lib.hid (HFJ.out k)
      obtain ⟨hr0, hr1, hr2⟩ := HR.out (k + 1) r HS.out
      have HZk := Lib.hid (HZ.out k)
      have HSkk := Lib.hid (HSk.out k r HS.out)
      have HTkk := Lib.hid (HTk.out k r HS.out hk)
      have hd0 : decide ((0 : Int) ≤ (k : Int)) = true := decide_eq_true hlt'
      clear HF HFJ hz
      generalize hgk : l.getD k 0 = x at *
      generalize hfk : fit k = f at *
      by_cases hsub : subN need x = true
      · rw [hsub] at HFk HIk
        have hft : f = true := by have := HIk.out; simpa using this
        subst hft
        clear HIk hsub
        by_cases hneg : r < 0
        · have HN := Lib.hid (HTkk.out (by first | rfl | trivial) (fun i e => by omega))
          clear HSkk HTkk HZk
          go_wp2_with fail
          refine (HFk.out).mono ?_; rintro e w1 ⟨rfl, rfl⟩
          go_wp2_with fail
          go_roundw
          case rel => exact ⟨k, _, k, by omega, rfl, by omega, rfl, by trivial, HN⟩
          case measure => simp [intOf]
        · obtain ⟨i, rfl⟩ : ∃ i : Nat, r = i := ⟨r.toNat, by omega⟩
          have HZi := Lib.hid (HZ.out i)
          have HKk := Lib.hid (HKp.out k i HS.out)
          have hneg' : ¬ (i : Int) < 0 := by omega
          generalize hzk : szN ns k = zk at *
          generalize hzi : szN ns i = zi at *
          go_wp2_with fail
          refine (HFk.out).mono ?_; rintro e w1 ⟨rfl, rfl⟩
          go_wp2_with fail
          refine (HZk.out).mono ?_; rintro e w1 ⟨rfl, rfl⟩
          go_wp2_with fail
          refine (HZi.out).mono ?_; rintro e w1 ⟨rfl, rfl⟩
          by_cases hz : zk ≤ zi
          · have HN := Lib.hid (HTkk.out (by first | rfl | trivial) (fun j e => by
              have : j = i := by omega
              subst this
              rw [hzi]; exact hz))
            clear HSkk HTkk HZk HZi HFk HKk
            go_wp2_with fail
            go_roundw
            case rel => exact ⟨k, _, k, by omega, rfl, by omega, rfl, by trivial, HN⟩
            case measure => simp [intOf]
          · have HN := Lib.hid (HKk.out (by omega))
            clear HSkk HTkk HZk HZi HFk HKk
            go_wp2_with fail
            go_roundw
            case rel => exact ⟨k, _, i, by omega, rfl, by omega, rfl, by trivial, HN⟩
            case measure => simp [intOf]
      · rw [eq_false_of_ne_true hsub] at HFk HIk
        have HN := Lib.hid (HSkk.out (by have := HIk.out; simpa using this))
        clear HSkk HTkk HZk hsub HIk
        go_wp2_with fail
        refine (HFk.out).mono ?_; rintro e w1 ⟨rfl, rfl⟩
        go_wp2_with fail
        go_roundw
        case rel => exact ⟨k, _, r, by omega, rfl, by omega, rfl, by trivial, HN⟩
        case measure => simp [intOf]
    · have hkn : t = 0 := by omega
      subst hkn
      have hlt' : ¬ (0 : Int) ≤ z := by omega
      have HX := Lib.hid HS.out
      clear HS HR HSk HTk HKp
      go_wp2_with fail
      go_ret
      exact ⟨⟨r, rfl, HX.out⟩, rfl⟩
set_option maxHeartbeats 8000000 in
theorem rcoverS_any (w : World) (v s : Value) (l : List Nat) (ns : List Int) (need : Nat) (hv : Msk w v l) (hs : Szs w s ns) (hb : Bd l) (hn : need < 4294967296) (hl : l.length ≤ 1000000) :
    Calls Try.prog 18 #[v, s, .int .u32 need, .bool true] w fun e w' => (∃ r, e = .returned (.int .i64 r) ∧ SmP (fitS l need) (szN ns) 0 l.length r) ∧ w = w' := by
  have HV := Lib.hid hv
  have HF := Lib.hid (fun k => rsub17_any w need (l.getD k 0) hn (hb.getD k))
  have HZ := Lib.hid (fun i => rsize17_any w s ns i hs)
  obtain ⟨p, cap, rfl⟩ := hv.len
  obtain ⟨q, qc, rfl⟩ := hs.len
  have HR := Lib.hid (fun k (r : Int) (h : SmP (fitS l need) (szN ns) k l.length r) => h.range)
  have HSk := Lib.hid (fun k (r : Int) (h : SmP (fitS l need) (szN ns) (k + 1) l.length r) (hf : fitS l need k = false) => h.rskip hf)
  have HTk := Lib.hid (fun k (r : Int) (h : SmP (fitS l need) (szN ns) (k + 1) l.length r) (hk : k < l.length) (hf : fitS l need k = true) hs => h.rtake hk hf hs)
  have HKp := Lib.hid (fun k (i : Nat) (h : SmP (fitS l need) (szN ns) (k + 1) l.length i) hs => h.rkeep hs)
  have H0 := Lib.hid (SmP.start (fitS l need) (szN ns) l.length)
  have HFJ := Lib.hid (fun k => show fitS l need k = (!decide (l.getD k 0 = need) && subN need (l.getD k 0)) from rfl)
  generalize fitS l need = fit at *
  clear hv hs hb
  go_enter Try.func18, Try.ntmps18
  go_wp2_with fail
  go_loopw [10, 9] (fun iv bv wr => ∃ (t : Nat) (z r : Int), t ≤ l.length ∧ iv = .int .i64 z ∧ z + 1 = t ∧ bv = .int .i64 r ∧ wr = w ∧ Hid (SmP fit (szN ns) t l.length r)) (fun iv _ _ => (intOf iv + 1).toNat)
  case atStart => exact ⟨l.length, _, -1, Nat.le_refl _, rfl, by omega, rfl, by trivial, H0⟩
  case round =>
    obtain ⟨t, z, r, ht, rfl, hz, rfl, rfl, HS⟩ := hrel
    by_cases hlt : 0 < t
    · obtain ⟨k, rfl⟩ : ∃ k, t = k + 1 := ⟨t - 1, by omega⟩
      obtain rfl : z = (k : Int) := by omega
      have hlt' : (0 : Int) ≤ (k : Int) := by omega
      have hk : k < l.length := by omega
      have hk' : (k : Int) < (l.length : Int) := by omega
      obtain ⟨b0, off, rfl, hc0⟩ := Msk.at HV.out hk
      have HFk := Lib.hid (HF.out k)
      have HIk := Lib.hid (HFJ.out k)
      obtain ⟨hr0, hr1, hr2⟩ := HR.out (k + 1) r HS.out
      have HZk := Lib.hid (HZ.out k)
      have HSkk := Lib.hid (HSk.out k r HS.out)
      have HTkk := Lib.hid (HTk.out k r HS.out hk)
      have hd0 : decide ((0 : Int) ≤ (k : Int)) = true := decide_eq_true hlt'
      clear HF HFJ hz
      generalize hgk : l.getD k 0 = x at *
      generalize hfk : fit k = f at *
      by_cases hsub : subN need x = true
      · rw [hsub] at HFk HIk
        by_cases hq : x = need
        · have hq' : ((x : Int) == (need : Int)) = true := by rw [hq]; exact beq_self_eq_true _
          have HN := Lib.hid (HSkk.out (by have := HIk.out; rw [decide_eq_true hq] at this; simpa using this))
          clear HSkk HTkk HZk HIk hq hsub
          go_wp2_with fail
          refine (HFk.out).mono ?_; rintro e w1 ⟨rfl, rfl⟩
          go_wp2_with fail
          go_roundw
          case rel => exact ⟨k, _, r, by omega, rfl, by omega, rfl, by trivial, HN⟩
          case measure => simp [intOf]
        · have hq' : ((x : Int) == (need : Int)) = false := by rw [beq_eq_false_iff_ne]; omega
          rw [decide_eq_false hq] at HIk
          clear hq
          have hft : f = true := by have := HIk.out; simpa using this
          subst hft
          clear HIk hsub
          by_cases hneg : r < 0
          · have HN := Lib.hid (HTkk.out (by first | rfl | trivial) (fun i e => by omega))
            clear HSkk HTkk HZk
            go_wp2_with fail
            refine (HFk.out).mono ?_; rintro e w1 ⟨rfl, rfl⟩
            go_wp2_with fail
            go_roundw
            case rel => exact ⟨k, _, k, by omega, rfl, by omega, rfl, by trivial, HN⟩
            case measure => simp [intOf]
          · obtain ⟨i, rfl⟩ : ∃ i : Nat, r = i := ⟨r.toNat, by omega⟩
            have HZi := Lib.hid (HZ.out i)
            have HKk := Lib.hid (HKp.out k i HS.out)
            have hneg' : ¬ (i : Int) < 0 := by omega
            generalize hzk : szN ns k = zk at *
            generalize hzi : szN ns i = zi at *
            go_wp2_with fail
            refine (HFk.out).mono ?_; rintro e w1 ⟨rfl, rfl⟩
            go_wp2_with fail
            refine (HZk.out).mono ?_; rintro e w1 ⟨rfl, rfl⟩
            go_wp2_with fail
            refine (HZi.out).mono ?_; rintro e w1 ⟨rfl, rfl⟩
            by_cases hz : zk ≤ zi
            · have HN := Lib.hid (HTkk.out (by first | rfl | trivial) (fun j e => by
                have : j = i := by omega
                subst this
                rw [hzi]; exact hz))
              clear HSkk HTkk HZk HZi HFk HKk
              go_wp2_with fail
              go_roundw
              case rel => exact ⟨k, _, k, by omega, rfl, by omega, rfl, by trivial, HN⟩
              case measure => simp [intOf]
            · have HN := Lib.hid (HKk.out (by omega))
              clear HSkk HTkk HZk HZi HFk HKk
              go_wp2_with fail
              go_roundw
              case rel => exact ⟨k, _, i, by omega, rfl, by omega, rfl, by trivial, HN⟩
              case measure => simp [intOf]
      · rw [eq_false_of_ne_true hsub] at HFk HIk
        have HN := Lib.hid (HSkk.out (by have := HIk.out; simpa using this))
        clear HSkk HTkk HZk hsub HIk
        go_wp2_with fail
        refine (HFk.out).mono ?_; rintro e w1 ⟨rfl, rfl⟩
        go_wp2_with fail
        go_roundw
        case rel => exact ⟨k, _, r, by omega, rfl, by omega, rfl, by trivial, HN⟩
        case measure => simp [intOf]
    · have hkn : t = 0 := by omega
      subst hkn
      have hlt' : ¬ (0 : Int) ≤ z := by omega
      have HX := Lib.hid HS.out
      clear HS HR HSk HTk HKp
      go_wp2_with fail
      go_ret
      exact ⟨⟨r, rfl, HX.out⟩, rfl⟩
/-- The reference's list behind i rounds. -/
def lisN (a f i : Nat) : List Nat := (List.range (2 ^ cntN i f)).map fun j => a + depN i f j
theorem lis_len (a f i : Nat) : (lisN a f i).length = 2 ^ cntN i f := by simp [lisN]
theorem lis_get {a f i j : Nat} (hj : j < 2 ^ cntN i f) : (lisN a f i).getD j 0 = a + depN i f j := by
  unfold lisN
  rw [List.getD_eq_getElem?_getD, List.getElem?_map, List.getElem?_range hj]
  rfl
theorem lis_zero (a f : Nat) : lisN a f 0 = [a] := rfl
theorem lis_skip {a f i : Nat} (h : f.testBit i = false) : lisN a f (i + 1) = lisN a f i := by
  have hc : cntN (i + 1) f = cntN i f := by rw [cnt_next, h]; rfl
  refine list_ext17 (by rw [lis_len, lis_len, hc]) fun j hj => ?_
  rw [lis_len] at hj
  rw [lis_get hj, dep_high i f j hj, h]
  rw [hc] at hj
  rw [lis_get hj, Nat.mod_eq_of_lt hj]
  simp
theorem dep_take {f i j : Nat} (h : f.testBit i = true) (hj : j < 2 ^ cntN i f) : depN (i + 1) f (j + 2 ^ cntN i f) = depN i f j + 2 ^ i := by
  have hc : cntN (i + 1) f = cntN i f + 1 := by rw [cnt_next, h]; rfl
  have hP : 0 < 2 ^ cntN i f := Nat.pow_pos (by decide)
  rw [dep_high i f _ (by rw [hc, Nat.pow_succ]; omega), if_pos h, Nat.add_mod_right, Nat.mod_eq_of_lt hj, Nat.add_div_right _ hP, Nat.div_eq_of_lt hj]
  simp
theorem lis_take {a f i : Nat} (h : f.testBit i = true) : lisN a f (i + 1) = lisN a f i ++ (lisN a f i).map (· + 2 ^ i) := by
  have hc : cntN (i + 1) f = cntN i f + 1 := by rw [cnt_next, h]; rfl
  have hP : 0 < 2 ^ cntN i f := Nat.pow_pos (by decide)
  refine list_ext17 (by rw [List.length_append, List.length_map, lis_len, lis_len, hc, Nat.pow_succ]; omega) fun j hj => ?_
  rw [lis_len] at hj
  rw [lis_get hj]
  by_cases hl : j < 2 ^ cntN i f
  · rw [List.getD_eq_getElem?_getD, List.getElem?_append_left (by rw [lis_len]; exact hl), ← List.getD_eq_getElem?_getD, lis_get hl, dep_high i f j hj, Nat.mod_eq_of_lt hl, Nat.div_eq_of_lt hl]
    simp
  · obtain ⟨m, rfl⟩ : ∃ m, j = m + 2 ^ cntN i f := ⟨j - 2 ^ cntN i f, by omega⟩
    have hm : m < 2 ^ cntN i f := by rw [hc, Nat.pow_succ] at hj; omega
    rw [List.getD_eq_getElem?_getD, List.getElem?_append_right (by rw [lis_len]; omega), lis_len, Nat.add_sub_cancel, List.getElem?_map, dep_take h hm]
    have h1 : (lisN a f i)[m]? = some (a + depN i f m) := by
      unfold lisN
      rw [List.getElem?_map, List.getElem?_range hm]
      rfl
    rw [h1]
    simp
    omega
theorem lis_all (a b : Nat) : lisN a (b - a) 32 = betN a b := rfl
theorem free_bit {a b k : Nat} (ha : a < 4294967296) (hb : b < 4294967296) (hs : subN a b = true) (hk : k < 32) : (b - a).testBit k = (b.testBit k && !a.testBit k) := by
  rw [← andNot_minus 32 a b hb hs, Nat.testBit_and, show 2 ^ 32 - 1 - a = 2 ^ 32 - (a + 1) by omega, Nat.testBit_two_pow_sub_succ (by omega)]
  simp [hk]
theorem cnt_mono (f : Nat) {i j : Nat} (h : i ≤ j) : cntN i f ≤ cntN j f := by
  obtain ⟨d, rfl⟩ : ∃ d, j = i + d := ⟨j - i, by omega⟩
  rw [cnt_add]
  omega
end Go.Proofs.Ytdopgpijbilffaa
