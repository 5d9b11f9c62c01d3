/- Layer 13: the program's Down, Of. -/
import Derived.Test.YtgbeedjcliajfaaKeyd
namespace Go.Proofs.Ytgbeedjcliajfaa
set_option maxRecDepth 100000
open Go.RowKit
set_option linter.unusedVariables false
/-- Why a key cannot go down from a set to another: 0 where it can. -/
def downE (S : Sc) (a b q : Int) : Nat := if numE S a = 0 then if subM b a = true then if keysL S.ds a S.ds.length ≤ q then 2 else 0 else 11 else numE S a
def downL (S : Sc) (a b q : Int) : Int := if downE S a b q = 0 then downG (dz S.ds) (bitG a) (bitG b) S.ds.length q else 0
theorem down_yes {S : Sc} {a b q : Int} (h : downE S a b q = 0) : numE S a = 0 ∧ subM b a = true ∧ q < keysL S.ds a S.ds.length := by
  unfold downE at h
  split at h
  · rename_i h1
    split at h
    · rename_i h2
      split at h
      · cases h
      · exact ⟨h1, h2, by omega⟩
    · cases h
  · rename_i h1; exact absurd h h1
theorem codes_in {ds : List (ByteArray × Int)} {a b q : Int} (hz : sizB ds = true) (hs : ∀ k, bitG b k = true → bitG a k = true) : InG (dz ds) (cz (codesL ds a q)) (bitG b) ds.length := fun k hk hp => by
  rw [codes_get ds a q hk]
  exact cod_range (sizes_one hz) q k hk (hs k hp)
theorem codes_key {ds : List (ByteArray × Int)} {a b q : Int} : keyG (dz ds) (cz (codesL ds a q)) (bitG b) ds.length = downG (dz ds) (bitG a) (bitG b) ds.length q :=
  keyG_congr fun k hk hp => codes_get ds a q hk
set_option maxHeartbeats 4000000 in
theorem down_any (w : World) (D I M V : Value) (S : Sc) (a b q : Int) (h : Sch4 w D I M V S) (hw : SWf S) (a0 : 0 ≤ a) (a1 : a ≤ 4294967295) (b0 : 0 ≤ b) (b1 : b ≤ 4294967295) (q0 : 0 ≤ q) (q1 : q ≤ 18446744073709551615) :
    Calls Try.prog 17 #[SchV D I M V, .int .u32 a, .int .u32 b, .int .u64 q] w fun e w' => e = .returned (.tuple #[.int .u64 (downL S a b q), .int .i64 (downE S a b q)]) ∧ Below w.heap.size w w' := by
  have HB0 := Lib.hid (below_one w (SchO D I M V))
  have HX := Lib.hid (box_new w D I M V)
  have HN := Lib.hid (fun w1 (hb : Below w.heap.size w w1) => number_any w1 D I M V S a (h.below hb) hw a0 a1)
  by_cases hn : numE S a = 0
  · rw [hn, if_pos rfl] at HN
    have hy := sc_few (num_yes hn).1
    have hsub := sub_bits b0 b1 a0 a1
    have HS := Lib.hid (fun w1 (hb : Below w.heap.size w w1) => split_any w1 D S.ds a q (h.below hb).d (by omega) hy.2 a0 a1 q0 q1)
    have HJ := Lib.hid (fun w1 (hb : Below w.heap.size w w1) (hs : subM b a = true) u (hu : Ints .i64 w1 u (codesL S.ds a q)) => join_any w1 D u S.ds b (codesL S.ds a q) (h.below hb).d hu (by omega) (codes_len _ _ _) hy.2 (codes_in hy.2 ((sub_iff b0 b1).1 hs)) b0 b1)
    obtain ⟨⟨p, c, rfl⟩, ⟨p2, c2, rfl⟩, ⟨p3, c3, rfl⟩, p4, c4, rfl⟩ := h.slices
    by_cases hs : subM b a = true
    · rw [hs] at hsub
      by_cases hq : keysL S.ds a S.ds.length ≤ q
      · have hE : downE S a b q = 2 := by unfold downE; rw [if_pos hn, if_pos hs, if_pos hq]
        have hL : downL S a b q = 0 := by unfold downL; rw [hE]; rfl
        rw [hE, hL]
        generalize keysL S.ds a S.ds.length = ky at *
        clear hn hE h hw hy HS HJ hL hs
        go_enter Try.func17, Try.ntmps17
        go_wp2_with fail
        refine (HN.out _ HB0.out).mono ?_; rintro e w1 ⟨rfl, hb⟩
        have HB1 := Lib.hid (below_then HB0.out hb)
        clear hb
        go_wp2_with fail
        exact bodyPost_ret (v := .tuple #[.int .u64 0, .int .i64 2]) (by simp [results, Try.results17, go_sem]) rfl ⟨rfl, HB1.out⟩
      · have hE : downE S a b q = 0 := by unfold downE; rw [if_pos hn, if_pos hs, if_neg hq]
        have hL : downL S a b q = keyG (dz S.ds) (cz (codesL S.ds a q)) (bitG b) S.ds.length := by unfold downL; rw [hE, if_pos rfl, codes_key]
        rw [hE, hL]
        generalize keysL S.ds a S.ds.length = ky at *
        have HJ2 := Lib.hid (fun w1 hb u hu => HJ.out w1 hb hs u hu)
        generalize keyG (dz S.ds) (cz (codesL S.ds a q)) (bitG b) S.ds.length = r at *
        generalize codesL S.ds a q = l at *
        clear hn hE h hw hy hL hs HJ
        go_enter Try.func17, Try.ntmps17
        go_wp2_with fail
        refine (HN.out _ HB0.out).mono ?_; rintro e w1 ⟨rfl, hb⟩
        have HB1 := Lib.hid (below_then HB0.out hb)
        obtain ⟨x0, x1, x2, x3⟩ := (HX.out.below hb).reads
        clear hb
        go_upto_region 8 with fail
        have hk : w1.drew.cell? ⟨w.heap.size, 0, none⟩ = some (.slice p S.ds.length c) := by simp [x0]
        have hBw : Below w.heap.size w w1.drew := HB1.out.drew
        clear x0 x1 x2 x3
        go_region_held3 (fun w' => w'.cell? ⟨w.heap.size, 0, none⟩ = some (.slice p S.ds.length c)) (with_reducible exact hk)
          (first
            | (go_at_call 28; refine (HS.out _ hBw).mono ?_; rintro r w4 ⟨⟨v, rfl, hv⟩, hb2⟩; have hV := Ints.own hv; obtain ⟨pa, pc, rfl, -, -⟩ := id hV; have hk := cell_later hb2 hk; have hBw := below_then hBw hb2; clear hb2 hv)
            | (go_at_call 24; refine (HJ2.out _ hBw _ hV).mono ?_; rintro r w5 ⟨rfl, hb2⟩; have hk := cell_later hb2 hk; have hBw := below_then hBw hb2; clear hb2))
        have HB7 := Lib.hid hBw
        clear hBw hV
        go_wp2_with fail
        exact bodyPost_ret (v := .tuple #[.int .u64 r, .int .i64 0]) (by simp [results, Try.results17, go_sem]) rfl ⟨rfl, HB7.out⟩
    · have hE : downE S a b q = 11 := by unfold downE; rw [if_pos hn, if_neg hs]
      have hL : downL S a b q = 0 := by unfold downL; rw [hE]; rfl
      rw [hE, hL]
      rw [eq_false_of_ne_true hs] at hsub
      generalize keysL S.ds a S.ds.length = ky at *
      clear hn hE h hw hy HS HJ hL hs
      go_enter Try.func17, Try.ntmps17
      go_wp2_with fail
      refine (HN.out _ HB0.out).mono ?_; rintro e w1 ⟨rfl, hb⟩
      have HB1 := Lib.hid (below_then HB0.out hb)
      clear hb
      go_wp2_with fail
      exact bodyPost_ret (v := .tuple #[.int .u64 0, .int .i64 11]) (by simp [results, Try.results17, go_sem]) rfl ⟨rfl, HB1.out⟩
  · obtain ⟨⟨p, c, rfl⟩, ⟨p2, c2, rfl⟩, ⟨p3, c3, rfl⟩, p4, c4, rfl⟩ := h.slices
    have hE : downE S a b q = numE S a := by unfold downE; rw [if_neg hn]
    have hL : downL S a b q = 0 := by unfold downL; rw [hE, if_neg hn]
    rw [hE, hL]
    rw [if_neg hn] at HN
    have hz : ((numE S a : Int) != 0) = true := by simp; omega
    generalize (numE S a : Int) = ne at *
    clear hn hE h hw hL
    go_enter Try.func17, Try.ntmps17
    go_wp2_with fail
    refine (HN.out _ HB0.out).mono ?_; rintro e w1 ⟨rfl, hb⟩
    have HB1 := Lib.hid (below_then HB0.out hb)
    clear hb
    go_wp2_with fail
    exact bodyPost_ret (v := .tuple #[.int .u64 0, .int .i64 ne]) (by simp [results, Try.results17, go_sem]) rfl ⟨rfl, HB1.out⟩
/-- The code of a dimension in the set is in its range. -/
def rngAt (ds : List (ByteArray × Int)) (m : Int) (l : List Int) (k : Nat) : Bool := !bitG m k || (decide (0 ≤ cz l k) && decide (cz l k < dz ds k))
def rngB (ds : List (ByteArray × Int)) (m : Int) (l : List Int) : Bool := (List.range ds.length).all (rngAt ds m l)
theorem rng_in {ds : List (ByteArray × Int)} {m : Int} {l : List Int} (h : ∀ k, k < ds.length → rngAt ds m l k = true) : InG (dz ds) (cz l) (bitG m) ds.length := fun k hk hp => by
  have := h k hk
  unfold rngAt at this
  rw [hp] at this
  simpa using this
theorem rng_good {ds : List (ByteArray × Int)} {m : Int} {l : List Int} (h : ∀ k, k < ds.length → rngAt ds m l k = true) : rngB ds m l = true := List.all_eq_true.2 fun x hx => h x (by simpa using hx)
theorem rng_bad {ds : List (ByteArray × Int)} {m : Int} {l : List Int} {k : Nat} (hk : k < ds.length) (h : rngAt ds m l k = false) : rngB ds m l = false := List.all_eq_false.2 ⟨k, by simpa using hk, by simp [h]⟩
theorem rng_get {ds : List (ByteArray × Int)} {m : Int} {l : List Int} (h : rngB ds m l = true) : ∀ k, k < ds.length → rngAt ds m l k = true := fun k hk => List.all_eq_true.1 h k (by simpa using hk)
/-- Why codes have no key: 0 where they have. -/
def ofE (S : Sc) (m : Int) (l : List Int) : Nat := if numE S m = 0 then if l.length = S.ds.length then if rngB S.ds m l = true then 0 else 2 else 3 else numE S m
def ofL (S : Sc) (m : Int) (l : List Int) : Int := if ofE S m l = 0 then keyG (dz S.ds) (cz l) (bitG m) S.ds.length else 0
theorem of_yes {S : Sc} {m : Int} {l : List Int} (h : ofE S m l = 0) : numE S m = 0 ∧ l.length = S.ds.length ∧ InG (dz S.ds) (cz l) (bitG m) S.ds.length := by
  unfold ofE at h
  split at h
  · rename_i h1
    split at h
    · rename_i h2
      split at h
      · rename_i h3; exact ⟨h1, h2, rng_in (rng_get h3)⟩
      · cases h
    · cases h
  · rename_i h1; exact absurd h h1
end Go.Proofs.Ytgbeedjcliajfaa
