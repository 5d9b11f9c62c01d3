/- Layer 17: what comes in; the chapter's example; Close of too many. -/
import Derived.Test.YtdopgpijbilffaaLato
namespace Go.Proofs.Ytdopgpijbilffaa
set_option maxRecDepth 100000
open Go.RowKit
set_option linter.unusedVariables false
def Given (k : IntKind) (w : World) (v : Value) (zs : List Int) : Prop := Ints k w v zs ∧ ∀ n ∈ zs, (Lit.int k n).wf = true
theorem given_nil {k : IntKind} {w : World} : Given k w (.slice none 0 0) [] := ⟨⟨none, 0, rfl, by simp, .inl rfl⟩, fun _ h => by cases h⟩
theorem given_row {k : IntKind} {w : World} {x : Addr} {l c : Nat} {zs : List Int} (hl : l ≤ c) (hz : zs.length = c) (hcell : ∀ i, i < zs.length → w.cell? (x.add i) = some (.int k (zs.getD i 0))) (hw : ∀ n ∈ zs, (Lit.int k n).wf = true) :
    Given k w (.slice (some x) l c) (zs.take l) := by
  have ht : (zs.take l).length = l := by rw [List.length_take]; omega
  refine ⟨⟨some x, c, by rw [ht], by omega, ?_⟩, fun n hn => hw n (List.mem_of_mem_take hn)⟩
  by_cases h0 : l = 0
  · subst h0; exact .inl (by simp)
  · refine .inr ?_
    obtain ⟨b, off, spot⟩ := x
    have hc := hcell 0 (by omega)
    have hspot : spot = none := by simpa [Addr.add] using World.cell?_spot hc
    subst hspot
    refine ⟨b, off, rfl, World.block_lt_of_cell? w _ hc, fun i hi => ?_⟩
    rw [ht] at hi
    rw [getD_take hi]
    have hh := hcell i (by omega)
    by_cases h0 : i = 0
    · subst h0; simpa [Addr.add] using hh
    · simpa [Addr.add, h0] using hh

theorem len_max {k : IntKind} {w : World} {a : Option Addr} {len cap : Nat} {zs : List Int} (h : Given k w (.slice a len cap) zs) : zs.length = len := by
  obtain ⟨⟨_, _, e, _⟩, _⟩ := h; simp at e; exact e.2.1.symm
/-- Masks that came in are sets. -/
theorem given_msk {w : World} {v : Value} {zs : List Int} (h : Given .u32 w v zs) : ∃ l : List Nat, Msk w v l ∧ Bd l ∧ l.length = zs.length := by
  have key : ∀ zs : List Int, (∀ n ∈ zs, (Lit.int .u32 n).wf = true) → ∃ l : List Nat, natsI l = zs ∧ Bd l ∧ l.length = zs.length := by
    intro zs
    induction zs with
    | nil => intro _; exact ⟨[], rfl, Bd.nil, rfl⟩
    | cons a zs ih =>
      intro h
      obtain ⟨l, h1, h2, h3⟩ := ih (fun n hn => h n (List.mem_cons_of_mem _ hn))
      have ha := wf_u32 (h a (List.mem_cons_self ..))
      refine ⟨a.toNat :: l, ?_, fun x hx => ?_, by simp [h3]⟩
      · show ((a.toNat : Nat) : Int) :: natsI l = _
        rw [h1, Int.toNat_of_nonneg ha.1]
      · rcases List.mem_cons.1 hx with rfl | q
        · omega
        · exact h2 x q
  obtain ⟨l, h1, h2, h3⟩ := key zs h.2
  refine ⟨l, ?_, h2, h3⟩
  show Ints .u32 w v (natsI l)
  rw [h1]
  exact h.1
theorem clo36 (x : Nat) : clo [3, 6] x ↔ x ∈ [2, 3, 6] := by
  have h1 : ∀ x, clo [3] x ↔ x = 3 := fun x => by
    have := clo_snoc [] 3 x
    rw [show ([] : List Nat) ++ [3] = [3] from rfl] at this
    rw [this]
    constructor
    · rintro (q | q | ⟨b, q, -⟩)
      · exact absurd q (clo_nil _)
      · exact q
      · exact absurd q (clo_nil _)
    · exact fun q => .inr (.inl q)
  have h2 := clo_snoc [3] 6 x
  rw [show ([3] : List Nat) ++ [6] = [3, 6] from rfl] at h2
  rw [h2, h1]
  have e : 6 &&& 3 = 2 := by decide
  simp only [List.mem_cons, List.not_mem_nil, or_false]
  constructor
  · rintro (q | q | ⟨b, q, r⟩)
    · omega
    · omega
    · rw [h1] at q
      subst q
      omega
  · rintro (q | q | q)
    · exact .inr (.inr ⟨3, (h1 3).2 rfl, by omega⟩)
    · exact .inl q
    · exact .inr (.inl q)
theorem close36 {L : List Nat} (hp : List.Pairwise (fun a b : Nat => a < b) L) (h : ∀ x, x ∈ L ↔ clo [3, 6] x) : L = [2, 3, 6] :=
  sorted_one (lt := fun a b : Nat => a < b) (fun a => Nat.lt_irrefl a) (fun a b c => Nat.lt_trans) hp (by decide) (fun x => (h x).trans (clo36 x))
theorem cover_ex {r : Int} (h : SmP (fitC [7, 3, 5] 1) (szN [9, 4, 2]) 0 [7, 3, 5].length r) : r = 2 :=
  SmP.one h (.inr ⟨2, rfl, by decide, by decide, by decide, fun j _ h2 h3 => by
    rcases (by have : j < 3 := h2; omega : j = 0 ∨ j = 1 ∨ j = 2) with rfl | rfl | rfl <;> decide⟩)
theorem steps_ex {zs : List Int} (hl : zs.length = [7, 3, 5].length) (h : ∀ k, k < [7, 3, 5].length → SmP (fitS [7, 3, 5] ([7, 3, 5].getD k 0)) (szN [9, 4, 2]) 0 [7, 3, 5].length (zs.getD k 0)) : zs = [-1, 0, 0] := by
  have h0 : zs.getD 0 0 = -1 := SmP.one (h 0 (by decide)) (.inl ⟨rfl, fun j _ h2 => by
    rcases (by have : j < 3 := h2; omega : j = 0 ∨ j = 1 ∨ j = 2) with rfl | rfl | rfl <;> decide⟩)
  have h1 : zs.getD 1 0 = 0 := SmP.one (h 1 (by decide)) (.inr ⟨0, rfl, by decide, by decide, by decide, fun j _ h2 h3 => by
    rcases (by have : j < 3 := h2; omega : j = 0 ∨ j = 1 ∨ j = 2) with rfl | rfl | rfl
    · decide
    · exact absurd h3 (by decide)
    · exact absurd h3 (by decide)⟩)
  have h2 : zs.getD 2 0 = 0 := SmP.one (h 2 (by decide)) (.inr ⟨0, rfl, by decide, by decide, by decide, fun j _ h2 h3 => by
    rcases (by have : j < 3 := h2; omega : j = 0 ∨ j = 1 ∨ j = 2) with rfl | rfl | rfl
    · decide
    · exact absurd h3 (by decide)
    · exact absurd h3 (by decide)⟩)
  match zs, hl with
  | [a, b, c], _ =>
    simp at h0 h1 h2
    rw [h0, h1, h2]
theorem msk_lit {w : World} {B n : Nat} {v : Value} {l : List Nat} (h : w.ownsRow B 22 1 v n (natsU l)) : Msk w v l := msk_of h
set_option maxHeartbeats 8000000 in
theorem awake17_any (w : World) : Calls Try.prog 12 #[] w fun e w' => e = .returned (.bool true) ∧ Below w.heap.size w w' := by
  have hA := World.ownsRow_lit w #[.int .u32 3, .int .u32 6] (e := 22) (size := 1) 2 (Nat.le_refl _) (by decide) rfl
  have HC := Lib.hid (pclose_any (w.alloc (.cells #[.int .u32 3, .int .u32 6] 22)) (.slice (some ⟨w.heap.size, 0, none⟩) 2 2) [3, 6] (msk_lit (l := [3, 6]) hA) (by intro x hx; simp at hx; omega) (by decide))
  have HB0 := Lib.hid (below_one w (.cells #[.int .u32 3, .int .u32 6] 22))
  have HM := Lib.hid (fun w u v l hu hv hl => masks17_any u v l w hu hv hl)
  have HI := Lib.hid (fun w u v l hu hv hl => ints17_any w u v l hu hv hl)
  clear hA
  go_enter Try.func12, Try.ntmps12
  go_wp2_with fail
  refine (HC.out).mono ?_; rintro e w1 ⟨⟨v, L, rfl, hp, hm, -, hrow⟩, hb1⟩
  obtain rfl := close36 hp hm
  have HB1 := Lib.hid (below_then HB0.out hb1)
  have HL := Lib.hid (msk_of hrow)
  obtain ⟨pa, pc, rfl⟩ := own_slice hrow
  clear hp hm hrow hb1 HC HB0
  obtain ⟨w2, hw2⟩ : ∃ w2, w1.alloc (.cells #[.int .u32 7, .int .u32 3, .int .u32 5] 22) = w2 := ⟨_, rfl⟩
  obtain ⟨w3, hw3⟩ : ∃ w3, w2.alloc (.cells #[.int .i64 9, .int .i64 4, .int .i64 2] 3) = w3 := ⟨_, rfl⟩
  obtain ⟨w4, hw4⟩ : ∃ w4, w3.alloc (.cells #[.int .u32 2, .int .u32 3, .int .u32 6] 22) = w4 := ⟨_, rfl⟩
  have s2 : w2.heap.size = w1.heap.size + 1 := by rw [← hw2]; simp
  have s3 : w3.heap.size = w1.heap.size + 1 + 1 := by rw [← hw3]; simp [s2]
  have b2 : Below w1.heap.size w1 w2 := by rw [← hw2]; exact below_one w1 _
  have b3 : Below w2.heap.size w2 w3 := by rw [← hw3]; exact below_one w2 _
  have b4 : Below w3.heap.size w3 w4 := by rw [← hw4]; exact below_one w3 _
  have m2 : Msk w2 (.slice (some ⟨w1.heap.size, 0, none⟩) 3 3) [7, 3, 5] := by
    rw [← hw2]
    exact msk_lit (l := [7, 3, 5]) (World.ownsRow_lit w1 #[.int .u32 7, .int .u32 3, .int .u32 5] (e := 22) (size := 1) 3 (Nat.le_refl _) (by decide) rfl)
  have m3 : Szs w3 (.slice (some ⟨w2.heap.size, 0, none⟩) 3 3) [9, 4, 2] := by
    rw [← hw3]
    exact Ints.own (zs := [9, 4, 2]) (World.ownsRow_lit w2 #[.int .i64 9, .int .i64 4, .int .i64 2] (e := 3) (size := 1) 3 (Nat.le_refl _) (by decide) rfl)
  have m4 : Msk w4 (.slice (some ⟨w3.heap.size, 0, none⟩) 3 3) [2, 3, 6] := by
    rw [← hw4]
    exact msk_lit (l := [2, 3, 6]) (World.ownsRow_lit w3 #[.int .u32 2, .int .u32 3, .int .u32 6] (e := 22) (size := 1) 3 (Nat.le_refl _) (by decide) rfl)
  rw [s2] at m3
  rw [s3] at m4
  have b24 := below_then b3 b4
  have HMk := Lib.hid (HM.out w4 _ _ [2, 3, 6] (HL.out.below (below_then b2 b24)) m4 (by decide))
  have HV := Lib.hid (m2.below b24)
  have HN := Lib.hid (m3.below b4)
  have HB4 := Lib.hid (below_then HB1.out (below_then b2 b24))
  have HCo := Lib.hid (fun w5 (hb : Below w4.heap.size w4 w5) => pcover_any w5 _ _ [7, 3, 5] [9, 4, 2] 1 (HV.out.below hb) (HN.out.below hb) (by intro x hx; simp at hx; omega) (by decide) (by decide))
  have HSt := Lib.hid (fun w5 (hb : Below w4.heap.size w4 w5) => psteps_any w5 _ _ [7, 3, 5] [9, 4, 2] (HV.out.below hb) (HN.out.below hb) (by intro x hx; simp at hx; omega) (by decide))
  clear m2 m3 m4 b2 b3 b4 b24 s2 s3 HL HB1 HM HV HN
  subst hw2 hw3
  have HW4 := Lib.hid hw4
  clear hw4
  go_wp2_with fail
  rw [HW4.out]
  refine Calls.mono HMk.out ?_; rintro e w5 ⟨rfl, hb5⟩
  have HC5 := Lib.hid (HCo.out w5 hb5)
  have HB5 := Lib.hid (below_then HB4.out hb5)
  have HQ5 := Lib.hid hb5
  clear hb5 HMk HCo HW4
  go_wp2_with fail
  refine Calls.mono HC5.out ?_; rintro e w6 ⟨⟨r, rfl, hr⟩, hb6⟩
  obtain rfl := cover_ex hr
  have HC6 := Lib.hid (HSt.out w6 (below_then HQ5.out hb6))
  have HB6 := Lib.hid (below_then HB5.out hb6)
  clear hr hb6 HC5 HSt HB5 HQ5 HB4
  go_wp2_with fail
  refine Calls.mono HC6.out ?_; rintro e w7 ⟨⟨u, zs, rfl, hu, hl, hz⟩, hb7⟩
  obtain rfl := steps_ex hl hz
  have HB7 := Lib.hid (below_then HB6.out hb7)
  have hb8 := below_one w7 (.cells #[.int .i64 (-1), .int .i64 0, .int .i64 0] 3)
  have HI8 := Lib.hid (HI.out _ _ _ [-1, 0, 0] (hu.below hb8) (Ints.own (zs := [-1, 0, 0]) (World.ownsRow_lit w7 #[.int .i64 (-1), .int .i64 0, .int .i64 0] (e := 3) (size := 1) 3 (Nat.le_refl _) (by decide) rfl)) (by decide))
  have HB8 := Lib.hid (below_then HB7.out hb8)
  obtain ⟨ua, uc, rfl, -⟩ := hu
  clear hl hz hb7 hb8 HC6 HI HB6 HB7
  go_wp2_with fail
  refine Calls.mono HI8.out ?_; rintro e w9 ⟨rfl, hb9⟩
  have HB9 := Lib.hid (below_then HB8.out hb9)
  clear hb9 HI8 HB8
  go_wp2_with fail
  go_ret
  exact ⟨rfl, HB9.out⟩
theorem pclose_many (w : World) (v : Value) (n : Nat) (h : ∃ p c, v = .slice p n c) (hn : ¬ n ≤ 12) :
    Calls Try.prog 20 #[v] w fun e w' => e = .returned (.tuple #[.slice none 0 0, .int .i64 3]) ∧ w = w' := by
  obtain ⟨p, c, rfl⟩ := h
  have h12 : (12 : Int) < (n : Int) := by omega
  go_enter Try.func20, Try.ntmps20
  go_wp2_with fail
  go_ret2
  exact ⟨rfl, rfl⟩
end Go.Proofs.Ytdopgpijbilffaa
