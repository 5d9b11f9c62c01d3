/- Contracts that the law leans on, pruned and merged: Aggq Aggw Aggr. -/
import Derived.Test.YtigikgphipebiaaGreatDoorOn28
import Derived.Test.YtigikgphipebiaaGreatDoorOn39
import Derived.Test.YtigikgphipebiaaGreatDoorOn41
import Derived.Test.YtigikgphipebiaaGreatDoorOn42
/- Layer 14: the cell of a fact is a cell; the chapter's example. -/
namespace Go.Proofs.YtigikgphipebiaaGreatDoor
set_option maxRecDepth 100000
open Go.RowKit
set_option linter.unusedVariables false
theorem OW.len {x : Int} {z : Wh} (h : OW x z) (hx : I64 x) : z.sq.length ≤ 4 := by
  refine h.ty.wlen h.wd ?_
  rw [h.sq]
  have h1 : x * x = (x.natAbs : Int) * (x.natAbs : Int) := (Int.natAbs_mul_self' x).symm
  have h2 : (x.natAbs : Int) ≤ 9223372036854775808 := by have := hx.1; have := hx.2; omega
  have h3 : (x.natAbs : Int) * (x.natAbs : Int) ≤ 9223372036854775808 * 9223372036854775808 := Int.mul_le_mul h2 h2 (by omega) (by decide)
  rw [h1]
  exact Int.lt_of_le_of_lt h3 (by decide)
theorem OW.w {x : Int} {z : Wh} (h : OW x z) (hx : I64 x) (h0 : x ≠ -9223372036854775808) : WhW z where
  sum := by rw [h.sum]; exact hx
  abs := by rw [h.abs]; have := hx.1; have := hx.2; unfold I64; omega
  sq := h.wd
  len := by have := h.len hx; omega
  mn := by rw [h.mn]; exact hx
  mx := by rw [h.mx]; exact hx
theorem flag_lt14 (x : Nat) : flagN x < 32 := by rcases flag_cases x with h | h | h | h | h <;> omega
theorem OR.w {x : Nat} {z : Re} (h : OR x z) (hx : W64 x) : ReW z where
  sum := h.sum.bt (flag_lt14 x)
  len := by have := h.sum.len; omega
  mn := by rw [h.mn]; exact hx
  mx := by rw [h.mx]; exact hx
theorem ofL_range {S : Sc} {m : Int} {l : List Int} : 0 ≤ ofL S m l ∧ ofL S m l ≤ 18446744073709551615 := by
  unfold ofL
  by_cases h : ofE S m l = 0
  · rw [if_pos h]
    obtain ⟨h1, h2, h3⟩ := of_yes h
    have hc := (num_yes h1).1
    have hz := (sc_few hc).2
    have := key_step hz h3 S.ds.length (Nat.le_refl _)
    omega
  · rw [if_neg h]; omega
theorem one_min {S : Sc} {m : Int} {f : Fa} (h : oneE S m f = 0) : checkL S = 0 ∧ fitsL S f = 0 ∧ ofE S m f.cs = 0 ∧ ∀ k, k < f.is.length → f.is.getD k 0 ≠ -9223372036854775808 := by
  unfold oneE at h
  split at h
  · rename_i h1
    split at h
    · rename_i h2
      split at h
      · rename_i h3
        split at h
        · cases h
        · rename_i h4
          exact ⟨h1, h2, h3, fun k hk e => h4 (min_yes hk e)⟩
      · rename_i h3; exact absurd h h3
    · rename_i h2; exact absurd h h2
  · cases h
theorem OC.w {S : Sc} {m : Int} {f : Fa} {c : Ce} (h : OC S m f c) (hf : FaWf f) (h0 : oneE S m f = 0) : CeW c := by
  obtain ⟨q1, q2, q3, q4⟩ := one_min h0
  refine ⟨by rw [h.key]; exact ofL_range, by rw [h.cnt]; unfold I64; decide, fun x hx => ?_, fun x hx => ?_⟩
  · obtain ⟨k, hk, rfl⟩ := List.getElem_of_mem hx
    have hk2 : k < f.is.length := by rw [← h.li]; exact hk
    rw [← wg_get hk]
    exact (h.is k hk2).w (getD_all (P := I64) hf.i hk2) (q4 k hk2)
  · obtain ⟨k, hk, rfl⟩ := List.getElem_of_mem hx
    have hk2 : k < f.ns.length := by rw [← h.ln]; exact hk
    rw [← rg_get hk]
    exact (h.ns k hk2).w (getD_all (P := W64) hf.n hk2)
theorem OC.short {S : Sc} {m : Int} {f : Fa} {c : Ce} (h : OC S m f c) (hf : FaWf f) (h0 : oneE S m f = 0) : ShortC 20 c := by
  obtain ⟨q1, q2, q3, q4⟩ := one_min h0
  obtain ⟨-, -, k1, k2⟩ := fit_small q1 hf q2
  refine ⟨by rw [h.li]; omega, by rw [h.ln]; omega, fun k hk => ?_⟩
  have hk2 : k < f.is.length := by rw [← h.li]; exact hk
  have := (h.is k hk2).len (getD_all (P := I64) hf.i hk2)
  omega
theorem ShortC.mono {n m : Nat} {c : Ce} (h : ShortC n c) (hn : n ≤ m) : ShortC m c := ⟨h.li, h.ln, fun k hk => Nat.le_trans (h.sq k hk) hn⟩
def exA : Fa := ⟨[1], [3], []⟩
def exB : Fa := ⟨[0], [-5], []⟩
theorem exa_one : oneE exT 0 exA = 0 := by decide +kernel
theorem exb_one : oneE exT 0 exB = 0 := by decide +kernel
theorem exa_key : ofL exT 0 exA.cs = 0 := by decide +kernel
theorem exb_key : ofL exT 0 exB.cs = 0 := by decide +kernel
theorem exa_wf : FaWf exA := by
  refine ⟨?_, ?_, ?_, by decide⟩
  · intro x h; simp [exA] at h; omega
  · intro x h; simp [exA] at h; omega
  · intro x h; simp [exA] at h
theorem exb_wf : FaWf exB := by
  refine ⟨?_, ?_, ?_, by decide⟩
  · intro x h; simp [exB] at h; omega
  · intro x h; simp [exB] at h; omega
  · intro x h; simp [exB] at h
theorem ex_err {a b : Ce} (ha : OC exT 0 exA a) (hb : OC exT 0 exB b) : errJ a b = 0 := by
  have hla : a.is.length = 1 := ha.li
  have hlb : b.is.length = 1 := hb.li
  have hna : a.ns.length = 0 := ha.ln
  have hnb : b.ns.length = 0 := hb.ln
  have h1 : a.key = b.key ∧ a.is.length = b.is.length ∧ a.ns.length = b.ns.length := ⟨by rw [ha.key, hb.key, exa_key, exb_key], by omega, by omega⟩
  have h2 : fitB (a.cnt + b.cnt) = true ∧ ∀ k, k < a.is.length → okW (wg a.is k) (wg b.is k) = true := by
    refine ⟨by rw [ha.cnt, hb.cnt]; decide, fun k hk => ?_⟩
    obtain rfl : k = 0 := by omega
    have ka := ha.is 0 (by decide)
    have kb := hb.is 0 (by decide)
    unfold okW
    rw [ka.sum, kb.sum, ka.abs, kb.abs]
    decide
  rw [errJ_real h1 h2, hna]
  rfl
theorem ex_join {a b c : Ce} (ha : OC exT 0 exA a) (hb : OC exT 0 exB b) (h : JC a b c) : ∃ k ns, c = ⟨k, 2, [⟨-2, 8, [34], -5, 3⟩], ns⟩ := by
  have hla : a.is.length = 1 := ha.li
  have hlc : c.is.length = 1 := by rw [h.li]; exact hla
  have ka := ha.is 0 (by decide)
  have kb := hb.is 0 (by decide)
  have hj := h.is 0 (by omega)
  have hc := h.cnt
  rw [ha.cnt, hb.cnt] at hc
  obtain ⟨k, n, is, ns⟩ := c
  simp only at hlc hj hc
  match is, hlc with
  | [z], _ =>
    have hz : wg [z] 0 = z := rfl
    rw [hz] at hj
    obtain ⟨z0, z1, z2, z3, z4⟩ := z
    have e0 := hj.sum
    have e1 := hj.abs
    have e3 := hj.mn
    have e4 := hj.mx
    have e2 := hj.sq
    have ex : exA.is.getD 0 0 = 3 := rfl
    have ey : exB.is.getD 0 0 = -5 := rfl
    rw [ka.sum, kb.sum, ex, ey] at e0
    rw [ka.abs, kb.abs, ex, ey] at e1
    rw [ka.mn, kb.mn, ex, ey] at e3
    rw [ka.mx, kb.mx, ex, ey] at e4
    rw [ka.sq, kb.sq, ex, ey] at e2
    simp only at e0 e1 e2 e3 e4
    have h34 : z2 = [34] := tidy_unique hj.wd (by intro x hx; simp at hx; omega) hj.ty (.inr (by decide)) (by rw [e2]; decide)
    refine ⟨k, ns, ?_⟩
    rw [h34, e0, e1, e3, e4, hc]
    rfl
theorem fact_one (w : World) (cd x : Int) {N : Nat} (hN : w.heap.size = N) : Fact3 ((w.alloc (.cells #[.int .i64 cd] 3)).alloc (.cells #[.int .i64 x] 2)) (.slice (some ⟨N, 0, none⟩) 1 1) (.slice (some ⟨N + 1, 0, none⟩) 1 1) (.slice none 0 0) ⟨[cd], [x], []⟩ :=
  ⟨(set_one (k := .i64) (w := w) (x := cd) (T := 3) hN).below (below_one _ _), set_one (k := .i64) (x := x) (T := 2) (by simp [hN]), ⟨none, 0, rfl, by simp, .inl rfl⟩⟩
theorem pone_ex (w : World) (D I M V C J X : Value) (f : Fa) (h : Sch4 w D I M V exT) (h' : Fact3 w C J X f) (hf : FaWf f) (hT : Tab w) (hT2 : Tab64 w) (he : oneE exT 0 f = 0) :
    Calls Tryz.prog 11 #[SchV D I M V, .int .u32 0, FactV C J X] w fun e w' => ∃ c p k q l, e = .returned (.tuple #[.agg #[.int .u64 c.key, .int .i64 c.cnt, .slice p c.is.length k, .slice q c.ns.length l], .int .i64 0]) ∧ CeM w' (.slice p c.is.length k) (.slice q c.ns.length l) c ∧ OC exT 0 f c ∧ CeW c ∧ ShortC 20 c ∧ Below w.heap.size w w' :=
  (pone_any w D I M V C J X exT 0 f h ext_wf h' hf (by decide) (by decide) hT hT2).mono fun e w' ⟨c, I, N, he2, hm, hok, _, hb⟩ => by
    obtain ⟨⟨p, k, rfl⟩, q, l, rfl⟩ := hm.slices
    rw [he] at he2
    exact ⟨c, p, k, q, l, he2, hm, hok he, (hok he).w hf he, (hok he).short hf he, hb⟩
theorem row4 {w : World} {P : Nat} {T : TypeId} {a b c d : Value} (h : w.heap[P]? = some (.cells #[a, b, c, d] T (0, 0))) : w.cell? ⟨P, 0, none⟩ = some a ∧ w.cell? ⟨P, 1, none⟩ = some b ∧ w.cell? ⟨P, 2, none⟩ = some c ∧ w.cell? ⟨P, 3, none⟩ = some d := by
  refine ⟨by simp [World.cell?, h], by simp [World.cell?, h], by simp [World.cell?, h], by simp [World.cell?, h]⟩
set_option maxHeartbeats 8000000 in
theorem awake14_any (w : World) (hT : Tab w) (hT2 : Tab64 w) : Calls Tryz.prog 10 #[] w fun e w' => e = .returned (.bool true) ∧ Below w.heap.size w w' := by
  obtain ⟨W1, hW1⟩ : ∃ W, w.alloc (.cells #[.string ⟨#[97]⟩, .int .i64 2] 73) = W := ⟨_, rfl⟩
  obtain ⟨W2, hW2⟩ : ∃ W, W1.alloc (.cells #[.string ⟨#[109]⟩] 9) = W := ⟨_, rfl⟩
  have hd := ext_dims w w.heap.size 73 rfl
  rw [hW1] at hd
  have hs := strs_one (W := W1) (x := ⟨#[109]⟩) (T := 9) rfl
  have z1 : W1.heap.size = w.heap.size + 1 := by rw [← hW1]; simp
  rw [hW2, z1] at hs
  have b1 := below_one w (.cells #[.string ⟨#[97]⟩, .int .i64 2] 73)
  rw [hW1] at b1
  have b2 := below_one W1 (.cells #[.string ⟨#[109]⟩] 9)
  rw [hW2] at b2
  have z2 : W2.heap.size = w.heap.size + 1 + 1 := by rw [← hW2]; simp [z1]
  have b3 := below_one W2 (SchO (.slice (some ⟨w.heap.size, 0, none⟩) 1 1) (.slice (some ⟨w.heap.size + 1, 0, none⟩) 1 1) (.slice none 0 0) (.slice none 0 0))
  have hx := box_new W2 (.slice (some ⟨w.heap.size, 0, none⟩) 1 1) (.slice (some ⟨w.heap.size + 1, 0, none⟩) 1 1) (.slice none 0 0) (.slice none 0 0)
  rw [z2] at hx
  have HX := Lib.hid hx
  have HS := Lib.hid (show Sch4 (W2.alloc (SchO (.slice (some ⟨w.heap.size, 0, none⟩) 1 1) (.slice (some ⟨w.heap.size + 1, 0, none⟩) 1 1) (.slice none 0 0) (.slice none 0 0))) (.slice (some ⟨w.heap.size, 0, none⟩) 1 1) (.slice (some ⟨w.heap.size + 1, 0, none⟩) 1 1) (.slice none 0 0) (.slice none 0 0) exT from
    ⟨(hd.below b2).below b3, hs.below b3, ⟨none, 0, rfl, by simp [exT], by simp [exT], .inl rfl⟩, ⟨none, 0, rfl, by simp [exT], .inl rfl⟩⟩)
  have HB := Lib.hid (below_then b1 (below_then b2 b3))
  have HTb := Lib.hid (fun w1 (h : Below w.heap.size w w1) => And.intro (hT.call h) (hT2.call h))
  clear hd hs z1 b1 b2 z2 b3 hx hT hT2
  subst hW2 hW1
  go_enter Tryz.func10, Tryz.ntmps10
  go_upto_region 2 with fail
  generalize ((w.alloc (.cells #[.string ⟨#[97]⟩, .int .i64 2] 73)).alloc (.cells #[.string ⟨#[109]⟩] 9)).alloc (SchO (.slice (some ⟨w.heap.size, 0, none⟩) 1 1) (.slice (some ⟨w.heap.size + 1, 0, none⟩) 1 1) (.slice none 0 0) (.slice none 0 0)) = W at *
  obtain ⟨x0, x1, x2, x3⟩ := HX.out.reads
  have hb := below_then (below_one W (.cells #[.int .i64 1] 3)) (below_one _ (.cells #[.int .i64 3] 2))
  have HB1 := Lib.hid (below_then HB.out hb)
  have H1 := Lib.hid (pone_ex _ _ _ _ _ _ _ _ exA (HS.out.below hb) (fact_one W 1 3 rfl) exa_wf (HTb.out _ HB1.out).1 (HTb.out _ HB1.out).2 exa_one)
  have HW1 := Lib.hid hb
  clear hb
  go_wp2_with fail
  refine (H1.out).mono ?_; rintro e w1 ⟨a, p, k, q, l, rfl, ha, hoa, hwa, hsa, hb⟩
  have hb2 := below_then hb (below_one w1 (.cells #[.int .u64 a.key, .int .i64 a.cnt, .slice p a.is.length k, .slice q a.ns.length l] 41))
  have HW2 := Lib.hid (below_then HW1.out hb2)
  have HA2 := Lib.hid (show (w1.alloc (.cells #[.int .u64 a.key, .int .i64 a.cnt, .slice p a.is.length k, .slice q a.ns.length l] 41)).heap[w1.heap.size]? = some (.cells #[.int .u64 a.key, .int .i64 a.cnt, .slice p a.is.length k, .slice q a.ns.length l] 41 (0, 0)) from heap_alloc_new w1 _)
  have HAm := Lib.hid (ha.below (below_one w1 (.cells #[.int .u64 a.key, .int .i64 a.cnt, .slice p a.is.length k, .slice q a.ns.length l] 41)))
  have HAo := Lib.hid (And.intro hoa (And.intro hwa hsa))
  clear hb hb2 ha hoa hwa hsa H1 x0 x1 x2 x3
  go_upto_region 3 with fail
  generalize w1.alloc (.cells #[.int .u64 a.key, .int .i64 a.cnt, .slice p a.is.length k, .slice q a.ns.length l] 41) = w2 at *
  have HB2 := Lib.hid (below_then HB.out HW2.out)
  obtain ⟨x0, x1, x2, x3⟩ := (HX.out.below HW2.out).reads
  have hb := below_then (below_one w2 (.cells #[.int .i64 0] 3)) (below_one _ (.cells #[.int .i64 (-5)] 2))
  have HB3 := Lib.hid (below_then HB2.out hb)
  have H2 := Lib.hid (pone_ex _ _ _ _ _ _ _ _ exB ((HS.out.below HW2.out).below hb) (fact_one w2 0 (-5) rfl) exb_wf (HTb.out _ HB3.out).1 (HTb.out _ HB3.out).2 exb_one)
  have HW3 := Lib.hid hb
  clear hb
  go_wp2_with fail
  refine (H2.out).mono ?_; rintro e w3 ⟨b, p', k', q', l', rfl, hb', hob, hwb, hsb, hb⟩
  have hb2 := below_then hb (below_one w3 (.cells #[.int .u64 b.key, .int .i64 b.cnt, .slice p' b.is.length k', .slice q' b.ns.length l'] 41))
  have HW4 := Lib.hid (below_then HW3.out hb2)
  have HB4 := Lib.hid (show (w3.alloc (.cells #[.int .u64 b.key, .int .i64 b.cnt, .slice p' b.is.length k', .slice q' b.ns.length l'] 41)).heap[w3.heap.size]? = some (.cells #[.int .u64 b.key, .int .i64 b.cnt, .slice p' b.is.length k', .slice q' b.ns.length l'] 41 (0, 0)) from heap_alloc_new w3 _)
  have HBm := Lib.hid (hb'.below (below_one w3 (.cells #[.int .u64 b.key, .int .i64 b.cnt, .slice p' b.is.length k', .slice q' b.ns.length l'] 41)))
  have HBo := Lib.hid (And.intro hob (And.intro hwb hsb))
  clear hb hb2 hb' hob hwb hsb H2 x0 x1 x2 x3
  go_upto_region 4 with fail
  generalize w3.alloc (.cells #[.int .u64 b.key, .int .i64 b.cnt, .slice p' b.is.length k', .slice q' b.ns.length l'] 41) = w4 at *
  have HBb := Lib.hid (below_then HB2.out HW4.out)
  obtain ⟨x0, x1, x2, x3⟩ := row4 ((HW4.out.block _ (Array.getElem?_eq_some_iff.1 HA2.out).1).trans HA2.out)
  obtain ⟨y0, y1, y2, y3⟩ := row4 HB4.out
  have H3 := Lib.hid (pjoin14_any w4 a b _ _ _ _ (HAm.out.below HW4.out) HBm.out HAo.out.2.1 HBo.out.2.1 (HAo.out.2.2.mono (by decide)) (HBo.out.2.2.mono (by decide)) (HTb.out _ HBb.out).1)
  have HEr := Lib.hid (ex_err HAo.out.1 HBo.out.1)
  have HJn := Lib.hid (fun c h => ex_join (c := c) HAo.out.1 HBo.out.1 h)
  unfold RJ14 at H3
  rw [HEr.out] at H3
  clear HAo HBo HEr
  go_wp2_with fail
  refine (H3.out).mono ?_; rintro e w5 ⟨c, I, N, rfl, hm, hok, -, hb⟩
  obtain ⟨kk, ns, rfl⟩ := HJn.out c (hok (by trivial))
  obtain ⟨⟨pi, ci, rfl⟩, pn, cn, rfl⟩ := hm.slices
  have hb5 := below_one w5 (.cells #[.int .u64 kk, .int .i64 2, .slice pi 1 ci, .slice pn ns.length cn] 41)
  obtain ⟨r0, r1, r2, r3⟩ := row4 (heap_alloc_new w5 (.cells #[.int .u64 kk, .int .i64 2, .slice pi 1 ci, .slice pn ns.length cn] 41))
  obtain ⟨bb, off, qq, rfl, hq⟩ := (hm.i.below hb5).at (i := 0) (by show 0 < 1; decide)
  have HB6 := Lib.hid (below_then (below_then HBb.out hb) hb5)
  clear hb hb5 H3 hok hm x0 x1 x2 x3 y0 y1 y2 y3 HJn
  go_upto_region 5 with fail
  generalize w5.alloc (.cells #[.int .u64 kk, .int .i64 2, .slice (some ⟨bb, off, none⟩) 1 ci, .slice pn ns.length cn] 41) = w6 at *
  obtain ⟨s0, s1, s2, s3, s4, s5⟩ := hq
  obtain ⟨qp, qc, rfl, -, -⟩ := id s5
  have HQ := Lib.hid s5
  have hw : wg [⟨-2, 8, [34], -5, 3⟩] 0 = ⟨-2, 8, [34], -5, 3⟩ := rfl
  simp only [Nat.zero_mul, Nat.add_zero] at s0 s1 s2 s3 s4
  rw [hw] at s0 s1 s2 s3 s4 HQ
  dsimp only at s0 s1 s2 s3 s4 HQ
  have HSm := Lib.hid (fun (u : Value) (w7 : World) (hv : Ints .u32 w7 u [34]) (hb : Below w6.heap.size w6 w7) => rsame2_any (.slice qp 1 qc) u [34] [34] w7 (HQ.out.below hb) hv (by decide))
  have hdd : decide ([34] = ([34] : List Int)) = true := by decide
  rw [hdd] at HSm
  clear s5 hw hdd
  go_wp2_with fail
  refine (HSm.out _ _ (set_one (k := .u32) (w := w6) (x := 34) (T := 27) rfl) (below_one _ _)).mono ?_; rintro e w8 ⟨rfl, hd⟩
  have hb8 := below_then (below_one w6 (.cells #[.int .u32 34] 27)) hd.below
  have HB8 := Lib.hid (below_then HB6.out hb8)
  have r2 := cell_later hb8 r2
  have s3 := cell_later hb8 s3
  have s4 := cell_later hb8 s4
  clear hd hb8 HSm
  go_wp2_with fail
  go_ret
  exact ⟨rfl, HB8.out⟩
end Go.Proofs.YtigikgphipebiaaGreatDoor
/- Layer 14: the cell of a fact is right: plain facts. -/
namespace Go.Proofs.YtigikgphipebiaaGreatDoor
set_option maxRecDepth 100000
open Go.RowKit
set_option linter.unusedVariables false
theorem topB_at (a : List Int) : ∀ k i, i < k → ∀ j, j < 4 → (topB a k).getD (4 * i + j) 0 = (b4 (a.getD (a.length - 1 - i) 0)).getD j 0
  | 0, i, hi, _, _ => by omega
  | k + 1, i, hi, j, hj => by
    rw [topB_succ]
    by_cases e : i = k
    · subst e
      simp only [List.getD, List.getElem?_append, topB_len]
      rw [if_neg (by omega), show 4 * i + j - 4 * i = j by omega]
    · have ih := topB_at a k i (by omega) j hj
      simp only [List.getD, List.getElem?_append, topB_len] at ih ⊢
      rw [if_pos (by omega)]
      exact ih
theorem wAt_top {a : List Int} (h : Wd a) {k i : Nat} (hi : i < k) : wAt (topB a k) i = a.getD (a.length - 1 - i) 0 := by
  have hr := h.getD (a.length - 1 - i)
  unfold wAt
  rw [show 4 * i = 4 * i + 0 by omega, topB_at a k i hi 0 (by decide), show 4 * i + 0 + 1 = 4 * i + 1 by omega, topB_at a k i hi 1 (by decide), show 4 * i + 0 + 2 = 4 * i + 2 by omega, topB_at a k i hi 2 (by decide), show 4 * i + 0 + 3 = 4 * i + 3 by omega, topB_at a k i hi 3 (by decide)]
  generalize a.getD (a.length - 1 - i) 0 = x at *
  show ((x / 16777216 * 256 + x / 65536 % 256) * 256 + x / 256 % 256) * 256 + x % 256 = x
  omega
theorem bit4 : ∀ f, f < 32 → f.testBit 4 = true → f / 16 % 2 = 1 := by decide
/-- An encoding is read without an error. -/
theorem enc_err {f : Nat} {t : Int} {l : List Int} (hg : Good f t) (h : IsEnc f t l) : errN l = 0 := by
  obtain ⟨a, hd, ht, hv, hl, rfl⟩ := h
  obtain ⟨hf, h4, -⟩ := hg
  have hlow := lowW_le a
  have ha : a ≠ [] → t ≠ 0 := by
    intro hne e
    subst e
    exact hne (tidy_unique hd Wd.nil ht (.inl rfl) (by rw [hv]; simp [wv, wvN]))
  have ha2 : a ≠ [] → f / 16 % 2 = 1 := fun hne => bit4 f hf (h4 (ha hne))
  have hneg : t < 0 → f / 16 % 2 = 1 := fun hn => bit4 f hf (h4 (by omega))
  have hnil : a.length - lowW a = 0 → a = [] := by
    intro e
    by_cases hne : a = []
    · exact hne
    · have := lowW_lt ht hne; omega
  have hx : ∃ x : Nat, (f : Int) + (if decide (t < 0) = true then 32 else 0) = (x : Int) ∧ x ≤ 63 ∧ x / 16 % 2 = f / 16 % 2 ∧ (x / 32 = 1 ↔ t < 0) := by
    by_cases hn : t < 0
    · exact ⟨f + 32, by simp [hn], by omega, by omega, by constructor <;> intro _ <;> omega⟩
    · exact ⟨f, by simp [hn], by omega, by omega, by constructor <;> intro _ <;> omega⟩
  obtain ⟨x, hx1, hx2, hx3, hx4⟩ := hx
  unfold errN encB
  rw [hx1]
  have g0 : ([(x : Int), (lowW a : Int), (a.length : Int) - lowW a] ++ topB a (a.length - lowW a)).getD 0 0 = x := rfl
  have g1 : ([(x : Int), (lowW a : Int), (a.length : Int) - lowW a] ++ topB a (a.length - lowW a)).getD 1 0 = lowW a := rfl
  have g2 : ([(x : Int), (lowW a : Int), (a.length : Int) - lowW a] ++ topB a (a.length - lowW a)).getD 2 0 = (a.length : Int) - lowW a := rfl
  have g3 : ([(x : Int), (lowW a : Int), (a.length : Int) - lowW a] ++ topB a (a.length - lowW a)).drop 3 = topB a (a.length - lowW a) := rfl
  have gl : ([(x : Int), (lowW a : Int), (a.length : Int) - lowW a] ++ topB a (a.length - lowW a)).length = 3 + 4 * (a.length - lowW a) := by simp [topB_len]; omega
  have b0 : bad0 (x : Int) = false := by
    unfold bad0
    simp only [Bool.or_eq_false_iff, Bool.and_eq_false_iff, decide_eq_false_iff_not]
    refine ⟨by omega, ?_⟩
    by_cases hn : t < 0
    · right; have := hneg hn; omega
    · left; intro e; exact hn (hx4.1 (by omega))
  have b1 : bad1 (x : Int) (lowW a : Int) = false := by
    unfold bad1
    simp only [Bool.or_eq_false_iff, Bool.and_eq_false_iff, decide_eq_false_iff_not]
    by_cases hne : a = []
    · subst hne; simp [lowW]
    · have h1 := lowW_lt ht hne
      have h2 := ha2 hne
      exact ⟨by omega, .inr (by omega)⟩
  have b2 : bad2 (x : Int) (lowW a : Int) ((a.length : Int) - lowW a) = false := by
    unfold bad2
    simp only [Bool.or_eq_false_iff, Bool.and_eq_false_iff, decide_eq_false_iff_not]
    by_cases hne : a = []
    · subst hne
      have ht0 : ¬ t < 0 := by
        have : wv ([] : List Int) = 0 := by simp [wv, wvN]
        rw [this] at hv; omega
      refine ⟨⟨by simp [lowW], .inl (by simp [lowW])⟩, .inr ⟨by simp [lowW], fun e => ht0 (hx4.1 (by omega))⟩⟩
    · have h1 := lowW_lt ht hne
      have h2 := ha2 hne
      exact ⟨⟨by omega, .inr (by omega)⟩, .inl (by omega)⟩
  rw [g0, g1, g2, g3, gl, b0, b1, b2]
  rw [if_neg (by omega), if_neg (by decide), if_neg (by omega), if_neg (by decide), if_neg (by omega), if_neg (by decide)]
  have hn : ((a.length : Int) - lowW a).toNat = a.length - lowW a := by omega
  rw [hn]
  refine body_good (by rw [topB_len]) (fun h0 => ?_)
  have hne : a ≠ [] := by intro e; subst e; simp at h0
  refine ⟨?_, ?_⟩
  · rw [wAt_top hd h0, Nat.sub_zero]
    exact ht.resolve_left hne
  · rw [wAt_top hd (by omega), show a.length - 1 - (a.length - lowW a - 1) = lowW a by omega]
    exact lowW_ne a (by omega)
theorem OW.right {x : Int} {z : Wh} (h : OW x z) (hx : I64 x) : rightW z = true := by
  have hl := h.len hx
  unfold rightW
  rw [h.abs, h.sum, h.mn, h.mx, tidyB_iff.2 h.ty]
  simp only [Bool.and_true, Bool.and_eq_true, decide_eq_true_eq]
  refine ⟨⟨⟨⟨?_, ?_⟩, ?_⟩, ?_⟩, ?_⟩ <;> omega
theorem less_self (x : Nat) : lessB x x = false := by simp [lessB]
theorem OR.right {x : Nat} {z : Re} (h : OR x z) (hx : W64 x) : rightR z = true := by
  unfold rightR
  rw [enc_err (good_one x hx) h.sum, h.mn, h.mx, less_self]
  rfl
theorem of_fits {S : Sc} {m : Int} {f : Fa} (hc : checkL S = 0) (hf : fitsL S f = 0) : ofE S m f.cs = if m ≤ fullL S.ds then 0 else 11 := by
  obtain ⟨h1, h2, h3, h4⟩ := fits_ok hf
  unfold ofE numE
  rw [if_pos hc]
  by_cases hm : m ≤ fullL S.ds
  · rw [if_pos hm, if_pos rfl, if_pos h1, if_pos]
    refine rng_good fun k hk => ?_
    obtain ⟨k1, k2⟩ := cod_get h4 (k := k) (by omega)
    show (!bitG m k || (decide (0 ≤ f.cs.getD k 0) && decide (f.cs.getD k 0 < dz S.ds k))) = true
    rw [decide_eq_true k1, decide_eq_true k2]
    simp
  · rw [if_neg hm, if_neg (by decide)]
theorem OC.right {S : Sc} {m : Int} {f : Fa} {c : Ce} (h : OC S m f c) (hf : FaWf f) (h0 : oneE S m f = 0) : rightC S m c = true := by
  obtain ⟨q1, q2, q3, q4⟩ := one_min h0
  obtain ⟨o1, o2, o3⟩ := of_yes q3
  obtain ⟨f1, f2, f3, f4⟩ := fits_ok q2
  have hz := (sc_few q1).2
  have hk : c.key < keysL S.ds m S.ds.length := by
    rw [h.key, keys_num]
    unfold ofL
    rw [if_pos q3]
    exact (keyG_range (fun j hj => sizes_one hz j (by omega)) (fun j hj hp => o3 j (by omega) hp)).2
  unfold rightC validC
  rw [allW_yes (fun k hk => (h.is k (by rw [← h.li]; exact hk)).right (getD_all (P := I64) hf.i (by rw [← h.li]; exact hk))), allR_yes (fun k hk => (h.ns k (by rw [← h.ln]; exact hk)).right (getD_all (P := W64) hf.n (by rw [← h.ln]; exact hk)))]
  simp only [Bool.and_true, Bool.and_eq_true, decide_eq_true_eq]
  exact ⟨⟨q1, (num_yes o1).2⟩, ⟨⟨hk, by rw [h.cnt]; decide⟩, by rw [h.li, f2]⟩, by rw [h.ln, f3]⟩
theorem OC.same {S : Sc} {m : Int} {f : Fa} {c d : Ce} (h : OC S m f c) (k : OC S m f d) : sameC c d = true :=
  same_iff.2 {
    key := by rw [h.key, k.key]
    cnt := by rw [h.cnt, k.cnt]
    li := by rw [h.li, k.li]
    ln := by rw [h.ln, k.ln]
    is := fun i hi => by
      rw [h.li] at hi
      rw [(h.is i hi).same (k.is i hi)]
      exact same_wh _
    ns := fun i hi => by
      rw [h.ln] at hi
      rw [(h.ns i hi).same (k.ns i hi)]
      exact same_re _ }
end Go.Proofs.YtigikgphipebiaaGreatDoor
/- Layer 14: what the laws on joining ask of two answers. -/
namespace Go.Proofs.YtigikgphipebiaaGreatDoor
set_option maxRecDepth 100000
open Go.RowKit
set_option linter.unusedVariables false
theorem same_ce0 : sameC ce0 ce0 = true := by decide
/-- A box of a cell, and the cell in it. -/
structure CBox (w : World) (K : Nat) (p : Option Addr) (k : Nat) (q : Option Addr) (l : Nat) (c : Ce) : Prop where
  b : w.heap[K]? = some (.cells #[.int .u64 c.key, .int .i64 c.cnt, .slice p c.is.length k, .slice q c.ns.length l] 41 (0, 0))
  m : CeM w (.slice p c.is.length k) (.slice q c.ns.length l) c
theorem CBox.below {w w' : World} {K k l : Nat} {p q : Option Addr} {c : Ce} (h : CBox w K p k q l c) (hb : Below w.heap.size w w') : CBox w' K p k q l c := ⟨(hb.block _ (Array.getElem?_eq_some_iff.1 h.b).1).trans h.b, h.m.below hb⟩
theorem cbox_new {w : World} {p q : Option Addr} {k l : Nat} {c : Ce} (h : CeM w (.slice p c.is.length k) (.slice q c.ns.length l) c) : CBox (w.alloc (.cells #[.int .u64 c.key, .int .i64 c.cnt, .slice p c.is.length k, .slice q c.ns.length l] 41)) w.heap.size p k q l c :=
  ⟨heap_alloc_new w _, h.below (below_one _ _)⟩
theorem CBox.reads {w : World} {K k l : Nat} {p q : Option Addr} {c : Ce} (h : CBox w K p k q l c) : w.cell? ⟨K, 0, none⟩ = some (.int .u64 c.key) ∧ w.cell? ⟨K, 1, none⟩ = some (.int .i64 c.cnt) ∧ w.cell? ⟨K, 2, none⟩ = some (.slice p c.is.length k) ∧ w.cell? ⟨K, 3, none⟩ = some (.slice q c.ns.length l) := row4 h.b
end Go.Proofs.YtigikgphipebiaaGreatDoor
