/- Contracts that the law leans on, pruned and merged: Natg Natf. -/
import Derived.Test.YtigikgphipebiaaGreatDoorRi04
/- What Add and Sub of package nat return. -/
namespace Go.Proofs.YtigikgphipebiaaGreatDoor
set_option maxRecDepth 100000
open Go.RowKit
set_option linter.unusedVariables false
theorem wvN_set_same {l : List Int} {j : Nat} {x : Int} : wvN (l.set j x) j = wvN l j := wvN_congr (fun i hi => by rw [List.getD, List.getD, List.getElem?_set_ne (by omega)])
theorem getD_set_self {l : List Int} {j : Nat} {x : Int} (h : j < l.length) : (l.set j x).getD j 0 = x := by simp [List.getD, h]
theorem getD_set_other {l : List Int} {i j : Nat} {x : Int} (h : j ≠ i) : (l.set j x).getD i 0 = l.getD i 0 := by rw [List.getD, List.getD, List.getElem?_set_ne h]
theorem wvN_set_succ {l : List Int} {j : Nat} {x : Int} (h : j < l.length) : wvN (l.set j x) (j + 1) = wvN l j + x * 4294967296 ^ j := by
  rw [wvN, wvN_set_same, getD_set_self h]
theorem Wd.set {l : List Int} (hd : Wd l) {j : Nat} {x : Int} (h1 : 0 ≤ x) (h2 : x ≤ 4294967295) : Wd (l.set j x) := by
  intro y hy
  rcases List.mem_or_eq_of_mem_set hy with h | h
  · exact hd y h
  · subst h; exact ⟨h1, h2⟩
theorem Wd.zeros (n : Nat) : Wd (List.replicate n 0) := fun x hx => by have := List.eq_of_mem_replicate hx; omega
def AddRel (a b : List Int) (i : Nat) (out : List Int) (c : Int) : Prop := wvN a i + wvN b i = wvN out i + 4294967296 ^ i * c ∧ Wd out ∧ out.length = a.length + 1 ∧ 0 ≤ c ∧ c ≤ 1
theorem AddRel.start (a b : List Int) : AddRel a b 0 (List.replicate (a.length + 1) 0) 0 := ⟨by simp [wvN], Wd.zeros _, by simp, by omega, by omega⟩
theorem AddRel.step {a b out : List Int} {i : Nat} {c : Int} (ha : Wd a) (hb : Wd b) (h : AddRel a b i out c) (hi : i < a.length) (x y : Int) (hx : a.getD i 0 = x) (hy : b.getD i 0 = y) :
    AddRel a b (i + 1) (out.set i ((x + y + c) % 4294967296)) ((x + y + c) / 4294967296) := by
  obtain ⟨h1, h2, h3, h4, h5⟩ := h
  have h6 := ha.getD i
  have h7 := hb.getD i
  rw [hx] at h6
  rw [hy] at h7
  refine ⟨?_, h2.set (by omega) (by omega), by simpa using h3, by omega, by omega⟩
  rw [wvN_set_succ (by omega), wvN, wvN, hx, hy, q_succ]
  have e := wcarry_step (x + y + c) (4294967296 ^ i)
  have e1 : (x + y + c) * 4294967296 ^ i = x * 4294967296 ^ i + y * 4294967296 ^ i + c * 4294967296 ^ i := by rw [Int.add_mul, Int.add_mul]
  have e2 : 4294967296 ^ i * 4294967296 * ((x + y + c) / 4294967296) = (x + y + c) / 4294967296 * (4294967296 ^ i * 4294967296) := Int.mul_comm _ _
  have e3 : 4294967296 ^ i * c = c * 4294967296 ^ i := Int.mul_comm _ _
  omega
theorem AddRel.stop {a b out : List Int} {c : Int} (h : AddRel a b a.length out c) (hl : b.length ≤ a.length) : wv (out.set a.length c) = wv a + wv b ∧ Wd (out.set a.length c) ∧ (out.set a.length c).length = a.length + 1 := by
  obtain ⟨h1, h2, h3, h4, h5⟩ := h
  refine ⟨?_, h2.set h4 (by omega), by simpa using h3⟩
  have e : (out.set a.length c).length = a.length + 1 := by simpa using h3
  rw [wv, e, wvN_set_succ (by omega), wv, ← wvN_past b hl, h1, Int.mul_comm c]
/-- The row that is filled, and all that was. -/
def Fill (w : World) (g : Nat) (cap : Nat) (out : List Int) (wr : World) : Prop := WRow wr w.heap.size g cap out ∧ Below w.heap.size w wr
theorem Fill.set {w wr : World} {g cap : Nat} {out : List Int} (h : Fill w g cap out wr) (j : Nat) (x : Int) : Fill w g cap (out.set j x) (wr.setCell ⟨g, j, none⟩ (.int .u32 x)) :=
  ⟨h.1.set j x, below_set h.2 h.1.facts.1 j _⟩
theorem Fill.drewN {w wr : World} {g cap : Nat} {out : List Int} (h : Fill w g cap out wr) (n : Nat) : Fill w g cap out (wr.drewN n) := ⟨h.1.drewN n, below_drewN h.2 n⟩
theorem Fill.cells {w wr : World} {g cap : Nat} {out : List Int} (h : Fill w g cap out wr) {j : Nat} (hj : j < out.length) : wr.cell? ⟨g, j, none⟩ = some (.int .u32 (out.getD j 0)) ∧ wr.frozen? ⟨g, j, none⟩ = false := h.1.facts.2.2.2.2 j hj
/-- The end: the noughts of a filled row left out. -/
theorem fill_end {w wr : World} {g cap n : Nat} {out : List Int} {v : Value} {z : Int} {m : Nat} (h : Fill w g cap out wr) (hd : Wd out) (hl : out.length ≤ 1099511627776) (hz : wv out = z) (hm : out.length ≤ m) (hc : Cut (some ⟨g, 0, none⟩) cap out v n) : Fresh w z m (.returned v) wr := by
  have hw := hc.wlist (h.1.wlist hd hl)
  exact ⟨v, _, rfl, hc.own h.1, hw.1.2.1, hw.2.2, hw.2.1.trans hz, by rw [List.length_take]; omega, h.2⟩
set_option maxHeartbeats 1000000 in
theorem add_any (u v : Value) (a b : List Int) (w : World) (hu : WList w u a) (hv : WList w v b) (la : a.length ≤ 1099511627775) (lb : b.length ≤ 1099511627775) :
    Calls Tryz.prog 116 #[u, v] w (Fresh w (wv a + wv b) (max a.length b.length + 1)) := by
  obtain ⟨i0, hi, hz0, hz1, hz2⟩ := info_parts Tryz.infoU32
  obtain ⟨p, c, rfl⟩ := hu.shape
  obtain ⟨q, d, rfl⟩ := hv.shape
  have HU := Lib.hid hu
  have HV := Lib.hid hv
  clear hu hv
  by_cases hab : a.length < b.length
  · go_enter Tryz.func116, Tryz.ntmps116
    have hle : Hid (a.length ≤ b.length) := Lib.hid (by omega)
    have hmx : Hid (max a.length b.length = b.length) := Lib.hid (by omega)
    go_wp2_with (at_make; refine wpList_make_full _ rfl _ _ 24 rfl w.heap.size 27 i0 (.int .u32 0) 1 Tryz.underlying24 hi hz0 hz1 .i64 .i64 _ _ (b.length + 1) rfl rfl (by omega) (by omega) (by rw [hz2]; omega) (by unfold maxLen; omega) (by simp) ?_; intro w0 hown hgrow)
    have hF := Lib.hid (wrow_made rfl hown hgrow)
    clear hown hgrow
    go_wp2_with fail
    go_loopw [6, 22] (fun cy i wr => ∃ (k : Nat) (out : List Int) (cr : Int), k ≤ b.length ∧ i = .int .i64 k ∧ cy = .int .u32 cr ∧ Hid (AddRel b a k out cr) ∧ Hid (Fill w w.heap.size (b.length + 1) out wr)) (fun _ i _ => b.length - (intOf i).toNat)
    case atStart => exact ⟨0, _, 0, Nat.zero_le _, rfl, rfl, Lib.hid (AddRel.start b a), hF⟩
    case round =>
      obtain ⟨k, out, cr, hk, rfl, rfl, hR, hS⟩ := hrel
      clear hF
      have c0 := hR.out.2.2.2.1
      have c1 := hR.out.2.2.2.2
      have hlen := Lib.hid hR.out.2.2.1
      by_cases hlt : k < b.length
      · have ho : k < b.length + 1 := by omega
        obtain ⟨ho1, ho2⟩ := hS.out.cells (j := k) (by have := hlen.out; omega)
        obtain ⟨b1, o1, hp1, hb1, hc1⟩ := HV.out.1.cell (i := k) hlt
        subst hp1
        have hc1 := cell_later hS.out.2 hc1
        have dx := HV.out.2.1.getD k
        have dy := HU.out.2.1.getD k
        have hst := Lib.hid (fun (x y : Int) (hx : b.getD k 0 = x) (hy : a.getD k 0 = y) => hR.out.step HV.out.2.1 HU.out.2.1 hlt x y hx hy)
        generalize b.getD k 0 = x at *
        have hSS := Lib.hid (fun (z : Int) => hS.out.set k z)
        by_cases hyl : k < a.length
        · obtain ⟨b2, o2, hp2, hb2, hc2⟩ := HU.out.1.cell (i := k) hyl
          subst hp2
          have hc2 := cell_later hS.out.2 hc2
          generalize a.getD k 0 = y at *
          have hst2 := Lib.hid (hst.out x y rfl rfl)
          clear hst hS hR hb1 hb2
          go_wp2_with (go_at_call 174; refine (add32_any x y cr dx.1 dx.2 dy.1 dy.2 c0 (by omega) _).mono ?_; rintro e w' ⟨rfl, rfl⟩)
          go_roundw
          case rel => exact ⟨k + 1, _, _, by omega, by go_num, rfl, hst2, Lib.hid (hSS.out _)⟩
          case measure => simp [intOf]; omega
        · have hy0 : a.getD k 0 = 0 := getD_past (by omega)
          have hst2 := Lib.hid (hst.out x 0 rfl hy0)
          rw [Int.add_zero] at hst2
          clear hst hS hR hb1 hy0 dy
          go_wp2_with (go_at_call 174; refine (add32_any x 0 cr dx.1 dx.2 (by decide) (by decide) c0 (by omega) _).mono ?_; rintro e w' ⟨rfl, rfl⟩)
          go_roundw
          case rel => exact ⟨k + 1, _, _, by omega, by go_num, rfl, hst2, Lib.hid (hSS.out _)⟩
          case measure => simp [intOf]; omega
      · obtain rfl : k = b.length := by omega
        obtain ⟨ho1, ho2⟩ := hS.out.cells (j := b.length) (by have := hlen.out; omega)
        have hE := Lib.hid (hR.out.stop hle.out)
        have hT := Lib.hid (hS.out.set b.length cr)
        have hl2 := hE.out.2.2
        have hW := Lib.hid (hT.out.1.wlist hE.out.2.1 (by omega))
        have HS := Lib.hid (sig_any _ _ _ _ _ hW.out.1 (by omega))
        rw [hl2] at HS
        clear hR hS hl2 hW
        go_wp2_with fail
        refine (HS.out).mono ?_; rintro e w' ⟨u1, n, rfl, hc, rfl⟩
        go_wp2_with fail
        go_ret
        exact fill_end hT.out hE.out.2.1 (by have := hE.out.2.2; omega) (by rw [hE.out.1]; exact Int.add_comm _ _) (by have := hE.out.2.2; have := hmx.out; omega) hc
  · go_enter Tryz.func116, Tryz.ntmps116
    have hle : Hid (b.length ≤ a.length) := Lib.hid (by omega)
    have hmx : Hid (max a.length b.length = a.length) := Lib.hid (by omega)
    go_wp2_with (at_make; refine wpList_make_full _ rfl _ _ 24 rfl w.heap.size 27 i0 (.int .u32 0) 1 Tryz.underlying24 hi hz0 hz1 .i64 .i64 _ _ (a.length + 1) rfl rfl (by omega) (by omega) (by rw [hz2]; omega) (by unfold maxLen; omega) (by simp) ?_; intro w0 hown hgrow)
    have hF := Lib.hid (wrow_made rfl hown hgrow)
    clear hown hgrow
    go_wp2_with fail
    go_loopw [6, 22] (fun cy i wr => ∃ (k : Nat) (out : List Int) (cr : Int), k ≤ a.length ∧ i = .int .i64 k ∧ cy = .int .u32 cr ∧ Hid (AddRel a b k out cr) ∧ Hid (Fill w w.heap.size (a.length + 1) out wr)) (fun _ i _ => a.length - (intOf i).toNat)
    case atStart => exact ⟨0, _, 0, Nat.zero_le _, rfl, rfl, Lib.hid (AddRel.start a b), hF⟩
    case round =>
      obtain ⟨k, out, cr, hk, rfl, rfl, hR, hS⟩ := hrel
      clear hF
      have c0 := hR.out.2.2.2.1
      have c1 := hR.out.2.2.2.2
      have hlen := Lib.hid hR.out.2.2.1
      by_cases hlt : k < a.length
      · have ho : k < a.length + 1 := by omega
        obtain ⟨ho1, ho2⟩ := hS.out.cells (j := k) (by have := hlen.out; omega)
        obtain ⟨b1, o1, hp1, hb1, hc1⟩ := HU.out.1.cell (i := k) hlt
        subst hp1
        have hc1 := cell_later hS.out.2 hc1
        have dx := HU.out.2.1.getD k
        have dy := HV.out.2.1.getD k
        have hst := Lib.hid (fun (x y : Int) (hx : a.getD k 0 = x) (hy : b.getD k 0 = y) => hR.out.step HU.out.2.1 HV.out.2.1 hlt x y hx hy)
        generalize a.getD k 0 = x at *
        have hSS := Lib.hid (fun (z : Int) => hS.out.set k z)
        by_cases hyl : k < b.length
        · obtain ⟨b2, o2, hp2, hb2, hc2⟩ := HV.out.1.cell (i := k) hyl
          subst hp2
          have hc2 := cell_later hS.out.2 hc2
          generalize b.getD k 0 = y at *
          have hst2 := Lib.hid (hst.out x y rfl rfl)
          clear hst hS hR hb1 hb2
          go_wp2_with (go_at_call 174; refine (add32_any x y cr dx.1 dx.2 dy.1 dy.2 c0 (by omega) _).mono ?_; rintro e w' ⟨rfl, rfl⟩)
          go_roundw
          case rel => exact ⟨k + 1, _, _, by omega, by go_num, rfl, hst2, Lib.hid (hSS.out _)⟩
          case measure => simp [intOf]; omega
        · have hy0 : b.getD k 0 = 0 := getD_past (by omega)
          have hst2 := Lib.hid (hst.out x 0 rfl hy0)
          rw [Int.add_zero] at hst2
          clear hst hS hR hb1 hy0 dy
          go_wp2_with (go_at_call 174; refine (add32_any x 0 cr dx.1 dx.2 (by decide) (by decide) c0 (by omega) _).mono ?_; rintro e w' ⟨rfl, rfl⟩)
          go_roundw
          case rel => exact ⟨k + 1, _, _, by omega, by go_num, rfl, hst2, Lib.hid (hSS.out _)⟩
          case measure => simp [intOf]; omega
      · obtain rfl : k = a.length := by omega
        obtain ⟨ho1, ho2⟩ := hS.out.cells (j := a.length) (by have := hlen.out; omega)
        have hE := Lib.hid (hR.out.stop hle.out)
        have hT := Lib.hid (hS.out.set a.length cr)
        have hl2 := hE.out.2.2
        have hW := Lib.hid (hT.out.1.wlist hE.out.2.1 (by omega))
        have HS := Lib.hid (sig_any _ _ _ _ _ hW.out.1 (by omega))
        rw [hl2] at HS
        clear hR hS hl2 hW
        go_wp2_with fail
        refine (HS.out).mono ?_; rintro e w' ⟨u1, n, rfl, hc, rfl⟩
        go_wp2_with fail
        go_ret
        exact fill_end hT.out hE.out.2.1 (by have := hE.out.2.2; omega) (by rw [hE.out.1]) (by have := hE.out.2.2; have := hmx.out; omega) hc
theorem own_cases {w : World} {B : Nat} {v : Value} {a : List Int} (h : w.ownsRow B 27 1 v a.length (a.map (Value.int .u32))) :
    (v = .slice none 0 0 ∧ a = []) ∨ ∃ g cap, v = .slice (some ⟨g, 0, none⟩) a.length cap ∧ WRow w B g cap a := by
  rcases h.2 with ⟨rfl, h0⟩ | ⟨g, cap, cur, rfl, _⟩
  · exact .inl ⟨rfl, List.length_eq_zero_iff.1 h0⟩
  · exact .inr ⟨g, cap, rfl, h⟩
def SubRel (a b : List Int) (i : Nat) (out : List Int) (c : Int) : Prop :=
  wvN a i - wvN b i = wvN out i - 4294967296 ^ i * c ∧ Wd out ∧ out.length = a.length ∧ 0 ≤ c ∧ c ≤ 1 ∧ ∀ j, i ≤ j → out.getD j 0 = a.getD j 0
theorem SubRel.start {a : List Int} (b : List Int) (ha : Wd a) : SubRel a b 0 a 0 := ⟨by simp [wvN], ha, rfl, by omega, by omega, fun _ _ => rfl⟩
theorem SubRel.step {a b out : List Int} {i : Nat} {c : Int} (hb : Wd b) (h : SubRel a b i out c) (hi : i < a.length) (x y : Int) (hx : out.getD i 0 = x) (hy : b.getD i 0 = y) :
    SubRel a b (i + 1) (out.set i ((x - y - c) % 4294967296)) (-((x - y - c) / 4294967296)) := by
  obtain ⟨h1, h2, h3, h4, h5, h8⟩ := h
  have h6 := h2.getD i
  have h7 := hb.getD i
  have hxa := h8 i (Nat.le_refl _)
  rw [hx] at h6 hxa
  rw [hy] at h7
  refine ⟨?_, h2.set (by omega) (by omega), by simpa using h3, by omega, by omega, fun j hj => ?_⟩
  · rw [wvN_set_succ (by omega), wvN, wvN, ← hxa, hy, q_succ]
    have e := wcarry_step (x - y - c) (4294967296 ^ i)
    have e1 : (x - y - c) * 4294967296 ^ i = x * 4294967296 ^ i - y * 4294967296 ^ i - c * 4294967296 ^ i := by rw [Int.sub_mul, Int.sub_mul]
    have e2 : 4294967296 ^ i * 4294967296 * (-((x - y - c) / 4294967296)) = -((x - y - c) / 4294967296 * (4294967296 ^ i * 4294967296)) := by rw [Int.mul_neg, Int.mul_comm]
    have e3 : 4294967296 ^ i * c = c * 4294967296 ^ i := Int.mul_comm _ _
    omega
  · rw [getD_set_other (by omega)]; exact h8 j (by omega)
theorem SubRel.stop {a b out : List Int} {c : Int} (ha : Wd a) (hb : Wd b) (h : SubRel a b a.length out c) (hle : wv b ≤ wv a) : wv out = wv a - wv b := by
  obtain ⟨h1, h2, h3, h4, h5, h8⟩ := h
  have r1 := wv_range ha
  have r2 := wv_range h2
  rw [h3] at r2
  rw [wvN_of_lt hb (n := a.length) (by omega), wvN_past a (Nat.le_refl _), wvN_past out (by omega)] at h1
  have : c = 0 ∨ c = 1 := by omega
  rcases this with rfl | rfl
  · simp at h1; omega
  · simp at h1; omega
/-- A list and whether there is one. -/
def FreshOk (w : World) (z : Int) (m : Nat) (e : Ending) (w' : World) : Prop :=
  ∃ v, e = .returned (.tuple #[v, .bool true]) ∧ Fresh w z m (.returned v) w'
def NoneOk (w : World) (e : Ending) (w' : World) : Prop := e = .returned (.tuple #[.slice none 0 0, .bool false]) ∧ Below w.heap.size w w'
theorem Fresh.below {w w1 w2 : World} {z : Int} {m : Nat} {v : Value} (hb : Below w.heap.size w w1) (h : Fresh w1 z m (.returned v) w2) : Fresh w z m (.returned v) w2 := by
  obtain ⟨v', a, e, h1, h2, h3, h4, h5, h6⟩ := h
  refine ⟨v', a, e, ?_, h2, h3, h4, h5, hb.trans (h6.mono hb.size)⟩
  refine ⟨h1.1, ?_⟩
  rcases h1.2 with h | ⟨g, cap, cur, r1, r2, r3⟩
  · exact .inl h
  · exact .inr ⟨g, cap, cur, r1, by have := hb.size; omega, r3⟩
set_option maxHeartbeats 1000000 in
theorem sub_none (u v : Value) (a b : List Int) (w : World) (hu : WList w u a) (hv : WList w v b) (hlt : wv a < wv b) :
    Calls Tryz.prog 206 #[u, v] w (NoneOk w) := by
  have HC := Lib.hid (cmp_any u v a b w hu hv)
  rw [cmpI_lt hlt] at HC
  clear hlt hu hv
  go_enter Tryz.func206, Tryz.ntmps206
  go_wp2_with fail
  refine (HC.out).mono ?_; rintro e w' ⟨rfl, nd, rfl⟩
  go_wp2_with fail
  go_ret2
  exact ⟨rfl, below_drewN (Below.refl _ _) nd⟩
set_option maxHeartbeats 1000000 in
theorem sub_any (u v : Value) (a b : List Int) (w : World) (hu : WList w u a) (hv : WList w v b) (hle : wv b ≤ wv a) :
    Calls Tryz.prog 206 #[u, v] w (FreshOk w (wv a - wv b) a.length) := by
  have HC := Lib.hid (cmp_any u v a b w hu hv)
  have HT := Lib.hid (fun w1 (h : WList w1 u a) => trim_any u a w1 h _ rfl)
  have hcm : 0 ≤ cmpI (wv a) (wv b) := cmpI_ge.2 hle
  generalize cmpI (wv a) (wv b) = cm at *
  have HU := Lib.hid hu
  have HV := Lib.hid hv
  have HLE := Lib.hid hle
  obtain ⟨q, d, rfl⟩ := hv.shape
  have lb := hv.2.2
  have lA := Lib.hid hu.2.2
  clear hu hv hle
  go_enter Tryz.func206, Tryz.ntmps206
  go_wp2_with fail
  refine (HC.out).mono ?_; rintro e w' ⟨rfl, nd, rfl⟩
  have hb0 := below_drewN (Below.refl w.heap.size w) nd
  generalize w.drewN nd = W at *
  have hb0 := Lib.hid hb0
  go_wp2_with fail
  refine (HT.out _ (HU.out.below hb0.out)).mono ?_; rintro e w1 ⟨u1, x, rfl, hown, hd, ht, hz, hm, hb1⟩
  have HV1 := Lib.hid (HV.out.below hb0.out)
  have HD := Lib.hid hd
  have HZ := Lib.hid hz
  have HM := Lib.hid hm
  have lx : x.length ≤ 1099511627776 := by have := lA.out; omega
  clear hd ht hz hm HU HV HT HC
  rcases own_cases hown with ⟨rfl, rfl⟩ | ⟨g, cap, rfl, hr⟩
  · have hE : wv a - wv b = 0 := by
      have h1 := HZ.out
      have h2 := (wv_range HV1.out.2.1).1
      have h3 := HLE.out
      rw [wv_nil] at h1; omega
    have HE := Lib.hid hE
    have HS := Lib.hid (sig_any none 0 0 [] w1 WList.nil.1 (by decide))
    have HB := Lib.hid hb1
    clear hE hown hb1
    go_wp2_with fail
    go_loop [18] (fun i => i = .int .i64 0) (fun _ => 0)
    case atStart => rfl
    case round =>
      subst hrel
      go_wp2_with fail
      refine (HS.out).mono ?_; rintro e w' ⟨u1, n, rfl, hc, rfl⟩
      have hw := hc.wlist (w := w1) WList.nil
      go_wp2_with fail
      go_ret2
      refine ⟨_, rfl, Fresh.below hb0.out ⟨_, _, rfl, ?_, hw.1.2.1, hw.2.2, by rw [hw.2.1, HE.out]; rfl, by simp, HB.out⟩⟩
      rcases hc.1 with ⟨rfl, rfl⟩ | ⟨h0, rfl⟩
      · exact World.ownsRow_nil _ _ _ _
      · have := hc.2.1; simp at this; omega
  · have hF : Fill W g cap x w1 := ⟨hr, hb1⟩
    have hF := Lib.hid hF
    have hg := hr.facts.1
    clear hown hr hb1
    go_wp2_with fail
    go_loopw [7, 18] (fun cy i wr => ∃ (k : Nat) (out : List Int) (cr : Int), k ≤ x.length ∧ i = .int .i64 k ∧ cy = .int .u32 cr ∧ Hid (SubRel x b k out cr) ∧ Hid (Fill W g cap out wr)) (fun _ i _ => x.length - (intOf i).toNat)
    case atStart => exact ⟨0, _, 0, Nat.zero_le _, rfl, rfl, Lib.hid (SubRel.start b HD.out), hF⟩
    case round =>
      obtain ⟨k, out, cr, hk, rfl, rfl, hR, hS⟩ := hrel
      clear hF
      have hB := Lib.hid (HV1.out.below hS.out.2)
      have c0 := hR.out.2.2.2.1
      have c1 := hR.out.2.2.2.2.1
      have hlen := Lib.hid hR.out.2.2.1
      by_cases hlt : k < x.length
      · obtain ⟨ho1, ho2⟩ := hS.out.cells (j := k) (by have := hlen.out; omega)
        have dx := hR.out.2.1.getD k
        have dy := hB.out.2.1.getD k
        have hst := Lib.hid (fun (s t : Int) (hx : out.getD k 0 = s) (hy : b.getD k 0 = t) => hR.out.step hB.out.2.1 hlt s t hx hy)
        generalize out.getD k 0 = s at *
        have hSS := Lib.hid (fun (z : Int) => hS.out.set k z)
        by_cases hyl : k < b.length
        · obtain ⟨b2, o2, hp2, hb2, hc2⟩ := hB.out.1.cell (i := k) hyl
          subst hp2
          generalize b.getD k 0 = y at *
          have hst2 := Lib.hid (hst.out s y rfl rfl)
          clear hst hS hR hb2
          go_wp2_with (go_at_call 235; refine (sub32_any s y cr dx.1 dx.2 dy.1 dy.2 c0 c1 _).mono ?_; rintro e w' ⟨rfl, rfl⟩)
          go_roundw
          case rel => exact ⟨k + 1, _, _, by omega, by go_num, rfl, hst2, Lib.hid (hSS.out _)⟩
          case measure => simp [intOf]; omega
        · have hy0 : b.getD k 0 = 0 := getD_past (by omega)
          have hst2 := Lib.hid (hst.out s 0 rfl hy0)
          rw [Int.sub_zero] at hst2
          have hs32 := Lib.hid (fun w1 => sub32_any s 0 cr dx.1 dx.2 (by decide) (by decide) c0 c1 w1)
          rw [Int.sub_zero] at hs32
          clear hst hS hR hy0 dy
          go_wp2_with (go_at_call 235; refine (hs32.out _).mono ?_; rintro e w' ⟨rfl, rfl⟩)
          go_roundw
          case rel => exact ⟨k + 1, _, _, by omega, by go_num, rfl, hst2, Lib.hid (hSS.out _)⟩
          case measure => simp [intOf]; omega
      · obtain rfl : k = x.length := by omega
        have hE := Lib.hid (hR.out.stop HD.out hB.out.2.1 (by have := HZ.out; have := HLE.out; omega))
        have hl2 := hlen.out
        have hW := Lib.hid (hS.out.1.wlist hR.out.2.1 (by omega))
        have HS := Lib.hid (sig_any _ _ _ _ _ hW.out.1 (by omega))
        rw [hl2] at HS
        have hDo := Lib.hid hR.out.2.1
        clear hR hl2 hW
        go_wp2_with fail
        refine (HS.out).mono ?_; rintro e w' ⟨u1, n, rfl, hc, rfl⟩
        go_wp2_with fail
        go_ret2
        exact ⟨_, rfl, Fresh.below hb0.out (fill_end hS.out hDo.out (by have := hlen.out; omega) (by rw [hE.out, HZ.out]) (by have := hlen.out; have := HM.out; omega) hc)⟩
end Go.Proofs.YtigikgphipebiaaGreatDoor
/- What Noughts of package nat returns; the table of math/bits stands as its text lays it. -/
namespace Go.Proofs.YtigikgphipebiaaGreatDoor
set_option maxRecDepth 100000
open Go.RowKit
set_option linter.unusedVariables false
def Tab (w : World) : Prop := TabAt 1 Lib.deBruijn32tab w
theorem Tab.call {w w' : World} (h : Tab w) (hb : Below w.heap.size w w') : Tab w' := fun j hj => cell_later hb (h j hj)
set_option maxHeartbeats 1000000 in
theorem tz32_core (x k idx : Nat) (w : World) (hx0 : ((x : Int) == 0) = false)
    (key : bits BinOp.and IntKind.u32 (x : Int) (-(x : Int) % 4294967296) * 125613361 % 4294967296 / 134217728 = (idx : Int))
    (hi : idx < 32) (hk : k < 32) (hcell : w.cell? ⟨1, idx, none⟩ = some (.int .u8 k)) :
    Calls Tryz.prog 205 #[.int .u32 x] w fun e w' => e = .returned (.int .i64 k) ∧ w = w' := by
  go_enter Tryz.func205, Tryz.ntmps205
  go_wp2_with (simp only [key])
  go_ret
  exact ⟨rfl, rfl⟩
theorem tz32_any (x : Nat) (hx : x < 4294967296) (hx0 : x ≠ 0) (w : World) (hT : Tab w) :
    Calls Tryz.prog 205 #[.int .u32 x] w fun e w' => e = .returned (.int .i64 (Lib.ctz 32 x)) ∧ w = w' := by
  obtain ⟨hlow, hk⟩ := Lib.lowest_bit 32 x hx0 hx
  obtain ⟨hi, htab⟩ := Lib.deBruijn32_at _ hk
  have hcell := hT _ hi
  rw [htab] at hcell
  exact tz32_core x _ _ w (by simp; omega) (tz32_key x _ hx hx0 hlow) hi hk hcell
/-- n is how often z can be halved; 0 for 0. -/
def Halved (z : Int) (n : Nat) : Prop := (z = 0 ∧ n = 0) ∨ ∃ m : Nat, z = 2 ^ n * (2 * m + 1)
def HalvedPost (z : Int) (w : World) (e : Ending) (w' : World) : Prop := ∃ n : Nat, e = .returned (.int .i64 n) ∧ Halved z n ∧ w = w'
theorem wvN_zeros {a : List Int} {k : Nat} (h : ∀ j, j < k → a.getD j 0 = 0) : wvN a k = 0 := by
  have := wvN_congr (a := a) (b := []) (n := k) (fun i hi => by rw [h i hi]; rfl)
  rw [this]
  have e : ∀ n, wvN [] n = 0 := fun n => by
    induction n with
    | zero => rfl
    | succ n ih => rw [wvN, ih]; simp
  exact e k
theorem pow32 (k : Nat) : (4294967296 : Int) ^ k = 2 ^ (k * 32) := by
  rw [Nat.mul_comm, Int.pow_mul]; rfl
theorem wvN_split (a : List Int) (k n : Nat) : wvN a (k + n) = wvN a k + 4294967296 ^ k * wvN (a.drop k) n := by
  induction n with
  | zero => simp [wvN]
  | succ n ih =>
    rw [← Nat.add_assoc, wvN, ih, wvN]
    have e : (a.drop k).getD n 0 = a.getD (k + n) 0 := by simp [List.getD]
    rw [e, Int.mul_add, Int.pow_add]
    have : a.getD (k + n) 0 * (4294967296 ^ k * 4294967296 ^ n) = 4294967296 ^ k * (a.getD (k + n) 0 * 4294967296 ^ n) := by
      rw [← Int.mul_assoc, Int.mul_comm (a.getD (k + n) 0), Int.mul_assoc]
    omega
theorem wv_split (a : List Int) {k : Nat} (hk : k ≤ a.length) : wv a = wvN a k + 4294967296 ^ k * wv (a.drop k) := by
  have h := wvN_split a k (a.length - k)
  rw [show k + (a.length - k) = a.length from by omega] at h
  rw [wv, h, wv, List.length_drop]
theorem Wd.drop {a : List Int} (h : Wd a) (k : Nat) : Wd (a.drop k) := fun x hx => h x (List.mem_of_mem_drop hx)
theorem wv_head {a : List Int} (hne : 0 < a.length) : wv a = a.getD 0 0 + 4294967296 * wv (a.drop 1) := by
  have h := wv_split a (k := 1) hne
  rw [h]; simp [wvN]
theorem halved_words {a : List Int} (hd : Wd a) {k : Nat} (hk : k < a.length) (hz : ∀ j, j < k → a.getD j 0 = 0) (S : Nat) (hS : a.getD k 0 = S) (h0 : S ≠ 0) : Halved (wv a) (k * 32 + Lib.ctz 32 S) := by
  have hS1 : S < 4294967296 := by have := (hd.getD k).2; omega
  obtain ⟨m, hm, hlt⟩ := Lib.ctzFrom_spec 32 S (by omega) hS1
  have hc : Lib.ctz 32 S = Lib.ctzFrom 32 S := by simp [Lib.ctz, h0]
  rw [hc]
  generalize Lib.ctzFrom 32 S = t at *
  have h1 := wv_split a (k := k) (by omega)
  have h2 := wv_head (a := a.drop k) (by rw [List.length_drop]; omega)
  have e : (a.drop k).getD 0 0 = (S : Int) := by rw [← hS]; simp [List.getD]
  rw [e] at h2
  obtain ⟨R, hR⟩ := Int.eq_ofNat_of_zero_le (wv_range ((hd.drop k).drop 1)).1
  rw [hR] at h2
  obtain ⟨s, hs⟩ : ∃ s, 32 = t + s + 1 := ⟨31 - t, by omega⟩
  refine .inr ⟨m + 2 ^ s * R, ?_⟩
  rw [h1, wvN_zeros hz, h2, pow32, Int.pow_add, Int.mul_assoc, Int.zero_add]
  congr 1
  have e1 : (4294967296 : Int) = 2 ^ t * 2 ^ s * 2 := by
    rw [← Int.pow_add, ← Int.pow_succ, show (t + s).succ = 32 from hs.symm]; rfl
  have e2 : (S : Int) = 2 ^ t * (2 * m + 1) := by rw [hm]; simp
  have e4 : ((m + 2 ^ s * R : Nat) : Int) = (m : Int) + 2 ^ s * (R : Int) := by simp
  rw [e2, e1, e4]
  simp only [Int.mul_add, Int.mul_assoc]
  have e5 : (2 : Int) ^ t * (2 * (2 ^ s * (R : Int))) = 2 ^ t * (2 ^ s * (2 * (R : Int))) := by rw [← Int.mul_assoc 2, Int.mul_comm 2 (2 ^ s), Int.mul_assoc]
  omega
set_option maxHeartbeats 1000000 in
theorem noughts_any (u : Value) (a : List Int) (w : World) (hu : WList w u a) (hT : Tab w) :
    Calls Tryz.prog 167 #[u] w (HalvedPost (wv a) w) := by
  obtain ⟨p, c, rfl⟩ := hu.shape
  have HU := Lib.hid hu
  have HT := Lib.hid hT
  have lx := hu.2.2
  clear hu hT
  go_enter Tryz.func167, Tryz.ntmps167
  go_wp2_with fail
  go_loop [6] (fun i => ∃ (k : Nat), k ≤ a.length ∧ i = .int .i64 k ∧ Hid (∀ j, j < k → a.getD j 0 = 0)) (fun i => a.length - (intOf i).toNat)
  case atStart => exact ⟨0, Nat.zero_le _, rfl, Lib.hid (fun j hj => by omega)⟩
  case round =>
    obtain ⟨k, hk, rfl, hz⟩ := hrel
    by_cases hlt : k < a.length
    · obtain ⟨b1, o1, hp1, hb1, hc1⟩ := HU.out.1.cell (i := k) hlt
      subst hp1
      have hd := HU.out.2.1.getD k
      have hN := Lib.hid (fun (S : Nat) (hS : a.getD k 0 = S) (h0 : S ≠ 0) => halved_words HU.out.2.1 hlt hz.out S hS h0)
      have hM := Lib.hid (fun (hS : a.getD k 0 = 0) => fun j (hj : j < k + 1) => (by by_cases e : j = k; rw [e]; exact hS; exact hz.out j (by omega) : a.getD j 0 = 0))
      generalize a.getD k 0 = s at *
      obtain ⟨S, rfl⟩ := Int.eq_ofNat_of_zero_le hd.1
      have hN2 := Lib.hid (hN.out S rfl)
      clear hN hz hb1
      by_cases h0 : S = 0
      · have hs0 : ((S : Nat) : Int) = 0 := by omega
        have hM2 := Lib.hid (hM.out hs0)
        clear hM h0
        go_wp2_with fail
        go_round
        case rel => exact ⟨k + 1, by omega, by go_num, hM2⟩
        case measure => simp [intOf]; omega
      · have hs0 : ¬ ((S : Nat) : Int) = 0 := by omega
        have hC := Lib.hid (tz32_any S (by omega) h0 w HT.out)
        have hR := Lib.hid (hN2.out h0)
        have hlow : Lib.ctz 32 S < 32 := (Lib.lowest_bit 32 S h0 (by omega)).2
        clear hM hN2 h0
        generalize Lib.ctz 32 S = t at *
        go_wp2_with fail
        refine (hC.out).mono ?_; rintro e w' ⟨rfl, rfl⟩
        go_wp2_with fail
        go_ret
        exact ⟨k * 32 + t, ret_int (by omega), hR.out, rfl⟩
    · have hE := Lib.hid (wvN_zeros (a := a) (k := a.length) (fun j hj => hz.out j (by omega)))
      clear hz
      go_wp2_with fail
      go_ret
      exact ⟨0, rfl, .inl ⟨hE.out, rfl⟩, rfl⟩
end Go.Proofs.YtigikgphipebiaaGreatDoor
