/- What Int and Is of the reference's numbers return. -/
import Derived.Test.YtfaglcfoamfelaaReff
namespace Go.Proofs.Ytfaglcfoamfelaa
open Go.RowKit
set_option maxHeartbeats 1000000 in
theorem num_int (v : Value) (z : Int) (w : World) (hv : IsNum w v z) (h1 : -9223372036854775808 ≤ z) (h2 : z ≤ 9223372036854775807) :
    Calls Try.prog 12 #[v] w fun e w' => e = .returned (.int .i64 z) ∧ Below w.heap.size w w' := by
  have hs : Sized 8 z := sized8 (by omega) (by omega)
  obtain ⟨b1, s1, d1, rfl, i1, t1, g1, y1, n1, hz⟩ := id hv
  have hneg : b1 = true ↔ z < 0 := by
    have := (val_range g1).1
    constructor
    · intro e; subst e; have := y1.pos g1 (n1 rfl); simp [signed] at hz; omega
    · intro e; cases b1
      · simp [signed] at hz; omega
      · rfl
  obtain ⟨p1, c1, rfl, -, -⟩ := i1
  clear hz n1 y1 t1
  have hA := Lib.hid (fun w1 r (hb : Below w.heap.size w w1) (hr : IsNum w1 r 1) => num_add _ r z 1 8 w1 (hv.below hb) hr hs (sized8 (by decide) (by decide)) (by decide))
  have hU := Lib.hid (fun w1 r y (hr : IsNum w1 r y) (q1 : -18446744073709551616 < y) (q2 : y < 18446744073709551616) => num_uint r y w1 hr q1 q2)
  have hW := Lib.hid (fun w1 (hb : Below w.heap.size w w1) => num_uint _ z w1 (hv.below hb) (by omega) (by omega))
  have hB := Lib.hid (Box1.start w (.bool b1) (.slice p1 d1.length c1) 24)
  clear hv hs
  cases b1
  · have hz0 : 0 ≤ z := by have := hneg.2; simp at this; omega
    have hab : (z.natAbs : Int) = z := by omega
    clear hneg
    have hk := hB.out
    go_enter Try.func12, Try.ntmps12
    go_wp2_with fail
    refine (hW.out _ hk.2.2).mono ?_; rintro e w1 ⟨rfl, hb⟩
    have hk := hk.call hb
    rw [hab]
    have hE := hk.2.2
    clear hk hb hab
    go_wp2_with fail
    go_ret
    exact ⟨rfl, hE⟩
  · have hz0 : z < 0 := hneg.1 rfl
    clear hneg
    have hab : Hid ((((z + 1).natAbs : Nat) : Int) = -(z + 1)) := Lib.hid (by omega)
    go_enter Try.func12, Try.ntmps12
    go_wp2_with fail
    have hk := hB.out.drew
    go_region_held3 (fun w' => w'.cell? ⟨w.heap.size, 0, none⟩ = some (.bool true) ∧ w'.cell? ⟨w.heap.size, 1, none⟩ = some (.slice p1 d1.length c1) ∧ Below w.heap.size w w')
      (exact hk)
      (first
        | (go_at_call 15; refine (nat_any 1 _ (by decide) (by decide)).mono ?_; rintro e w1 ⟨r, rfl, hr, hb⟩; have hk := hk.call hb)
        | (go_at_call 14; refine (hA.out _ _ hk.2.2 hr).mono ?_; rintro e w2 ⟨q, rfl, hq, hb2⟩; have hk := hk.call hb2)
        | (go_at_call 24; refine (hU.out _ _ _ hq (by omega) (by omega)).mono ?_; rintro e w3 ⟨rfl, hb3⟩; have hk := hk.call hb3))
    have hE := hk.2.2
    clear hk
    go_wp2_with fail
    go_ret
    exact ⟨ret_int (by rw [hab.out]; simp only [IntKind.wrap_i64]; omega), hE⟩
set_option maxHeartbeats 1000000 in
/-- The judgement: what a call answered where the exact result is z. -/
theorem is_any (v : Value) (z : Int) (n : Nat) (w : World) (hv : IsNum w v z) (hz : Sized n z) (h8 : 8 ≤ n) (hn : n ≤ 1099511627770) :
    Calls Try.prog 7 #[.int .i64 (clip z), .bool (fitB z), v] w fun e w' => e = .returned (.bool true) ∧ Below w.heap.size w w' := by
  obtain ⟨b1, p1, l1, c1, rfl⟩ := hv.shape
  have hF := Lib.hid (fun w1 (hb : Below w.heap.size w w1) => num_fits _ z n w1 (hv.below hb) hz h8 hn)
  have hI := Lib.hid (fun w1 (hb : Below w.heap.size w w1) (q1 : -9223372036854775808 ≤ z) (q2 : z ≤ 9223372036854775807) => num_int _ z w1 (hv.below hb) q1 q2)
  have hB := Lib.hid (Box1.start w (.bool b1) (.slice p1 l1 c1) 24)
  clear hv hz
  by_cases h : -9223372036854775808 ≤ z ∧ z ≤ 9223372036854775807
  · have e1 := clip_yes h.1 h.2
    have e2 := fitB_yes h.1 h.2
    rw [e1, e2]
    have hF2 := Lib.hid (fun w1 hb => (e2 ▸ hF.out w1 hb : Calls Try.prog 11 _ w1 fun e w' => e = .returned (.bool true) ∧ Below w1.heap.size w1 w'))
    have hI2 := Lib.hid (fun w1 hb => hI.out w1 hb h.1 h.2)
    clear e1 e2 hF hI h
    have hk := hB.out
    go_enter Try.func7, Try.ntmps7
    go_wp2_with fail
    refine (hF2.out _ hk.2.2).mono ?_; rintro e w1 ⟨rfl, hb⟩
    have hk := hk.call hb
    have hk1 := hk.1
    have hk2 := hk.2.1
    go_wp2_with fail
    refine (hI2.out _ hk.2.2).mono ?_; rintro e w2 ⟨rfl, hb2⟩
    have hk := hk.call hb2
    have hE := hk.2.2
    clear hk hb hb2 hk1 hk2
    go_wp2_with fail
    go_ret
    exact ⟨ret_bool (by simp), hE⟩
  · have e1 := clip_no (z := z) (by omega)
    have e2 := fitB_no (z := z) (by omega)
    rw [e1, e2]
    have hF2 := Lib.hid (fun w1 hb => (e2 ▸ hF.out w1 hb : Calls Try.prog 11 _ w1 fun e w' => e = .returned (.bool false) ∧ Below w1.heap.size w1 w'))
    clear e1 e2 hF hI h
    have hk := hB.out
    go_enter Try.func7, Try.ntmps7
    go_wp2_with fail
    refine (hF2.out _ hk.2.2).mono ?_; rintro e w1 ⟨rfl, hb⟩
    have hk := hk.call hb
    have hE := hk.2.2
    clear hk hb
    go_wp2_with fail
    go_ret
    exact ⟨rfl, hE⟩
end Go.Proofs.Ytfaglcfoamfelaa
