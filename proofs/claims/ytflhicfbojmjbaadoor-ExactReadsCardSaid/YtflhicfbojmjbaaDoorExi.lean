/- The chapter's examples. -/
import Derived.Test.YtflhicfbojmjbaaDoorExe
import Derived.Test.YtflhicfbojmjbaaDoorAwake2
import Derived.Deep.AppendLies
import Derived.Test.YtflhicfbojmjbaaDoorLaid2
namespace Go.Proofs.YtflhicfbojmjbaaDoor
set_option maxRecDepth 100000
open Go.RowKit
set_option linter.unusedVariables false
def b4 (x : Int) : List Int := [x / 16777216, x / 65536 % 256, x / 256 % 256, x % 256]
def Bt (l : List Int) : Prop := ∀ x ∈ l, 0 ≤ x ∧ x ≤ 255
theorem b4_bt {x : Int} (h0 : 0 ≤ x) (h1 : x ≤ 4294967295) : Bt (b4 x) := by
  intro y hy; simp [b4] at hy; omega
abbrev BOwn (w : World) (B : Nat) (v : Value) (l : List Int) : Prop := w.ownsRow B 5 1 v l.length (l.map (Value.int .u8))
theorem own_more {B : Nat} {w wr w1 : World} {o v' : Value} {l m : List Int} {ob : Obj} (hB : B ≤ wr.heap.size) (hnx : Below B w wr) (hown : BOwn wr B o l)
    (hown' : w1.ownsRow B 5 1 v' (l.length + m.length) (l.map (Value.int .u8) ++ m.map (Value.int .u8))) (hg : (wr.alloc ob).grownBy w1 o.ownBlock) : BOwn w1 B v' (l ++ m) ∧ Below B w w1 := by
  refine ⟨?_, (hnx.alloc hB ob).grown hg (by simp; omega) (fun k hk => (hown.lt k hk).1)⟩
  unfold BOwn
  rw [List.length_append, List.map_append]; exact hown'
set_option maxHeartbeats 1000000 in
theorem append_word (v : Value) (l : List Int) (x : Int) (B : Nat) (w : World) (h : BOwn w B v l) (hB : B ≤ w.heap.size) (hl : l.length ≤ 100000) (h0 : 0 ≤ x) (h1 : x ≤ 4294967295) :
    Calls Tryd.prog 27 #[v, .int .u32 x] w fun e w' => (∃ v', e = .returned v' ∧ BOwn w' B v' (l ++ b4 x)) ∧ Below B w w' := by
  obtain ⟨i0, hi, hz0, hz1, hz2⟩ := info_parts Tryd.infoU8
  have HO := Lib.hid h
  obtain ⟨a, cap, rfl⟩ := own_slice h
  have hm : l.length + 4 ≤ maxLen := by unfold maxLen; omega
  clear h
  go_enter Tryd.func27, Tryd.ntmps27
  go_wp2_with (at_builtin; refine wpList_append_own _ rfl _ _ 22 rfl B 5 i0 (.int .u8 0) 1 1 Tryd.underlying22 hi hz0 hz1 hz2 rfl (by decide) _ _ _ rfl (HO.out.alloc _) ⟨w.heap.size, 0, none⟩ 4 4 [.int .u8 (x / 16777216), .int .u8 (x / 65536 % 256), .int .u8 (x / 256 % 256), .int .u8 (x % 256)] rfl rfl (World.news_of_block (heap_alloc_new w _)) (by simp [Value.oneCell']) hm (by omega) (by simp; omega) ?_; intro v' w1 hown' hgrow _)
  have hP := own_more (m := b4 x) hB (Below.refl B w) HO.out hown' hgrow
  clear hown' hgrow HO
  go_wp2_with fail
  go_ret
  exact ⟨⟨v', rfl, hP.1⟩, hP.2⟩
/-- How many words are 0 at the low end. -/
def lowW : List Int → Nat
  | [] => 0
  | x :: l => if x = 0 then lowW l + 1 else 0
theorem lowW_le : ∀ a : List Int, lowW a ≤ a.length
  | [] => Nat.le_refl _
  | x :: l => by have := lowW_le l; unfold lowW; split <;> simp <;> omega
theorem lowW_zero : ∀ (a : List Int) (j : Nat), j < lowW a → a.getD j 0 = 0
  | [], j, h => by simp
  | x :: l, j, h => by
    unfold lowW at h
    split at h
    · rename_i hx
      cases j with
      | zero => simpa using hx
      | succ j => have := lowW_zero l j (by omega); simpa using this
    · omega
theorem lowW_ne : ∀ (a : List Int), lowW a < a.length → a.getD (lowW a) 0 ≠ 0
  | [], h => by simp at h
  | x :: l, h => by
    unfold lowW at h ⊢
    split
    · rename_i hx
      rw [if_pos hx] at h
      have := lowW_ne l (by simpa using h)
      simpa using this
    · rename_i hx; simpa using hx
theorem lowW_lt {a : List Int} (ht : Tidy a) (hne : a ≠ []) : lowW a < a.length := by
  have h1 := lowW_le a
  rcases ht with h | h
  · exact absurd h hne
  · have hl : 0 < a.length := List.length_pos_iff.2 hne
    apply Classical.byContradiction
    intro hh
    exact h (lowW_zero a _ (by omega))
theorem lowW_unique {a : List Int} {k : Nat} (h1 : ∀ j, j < k → a.getD j 0 = 0) (h2 : a.getD k 0 ≠ 0) : lowW a = k := by
  have hk : k < a.length := by
    apply Classical.byContradiction
    intro hh
    exact h2 (by simp [List.getD, List.getElem?_eq_none (Nat.le_of_not_lt hh)])
  rcases Nat.lt_trichotomy (lowW a) k with h | h | h
  · exact absurd (h1 _ h) (lowW_ne a (by omega))
  · exact h
  · exact absurd (lowW_zero a k h) h2
/-- The bytes of the k highest words, the highest first. -/
def topB (a : List Int) (k : Nat) : List Int := (List.range k).flatMap fun i => b4 (a.getD (a.length - 1 - i) 0)
theorem topB_succ (a : List Int) (k : Nat) : topB a (k + 1) = topB a k ++ b4 (a.getD (a.length - 1 - k) 0) := by
  unfold topB; rw [List.range_succ, List.flatMap_append]; simp
theorem topB_len (a : List Int) (k : Nat) : (topB a k).length = 4 * k := by
  induction k with
  | zero => rfl
  | succ k ih => rw [topB_succ, List.length_append, ih]; simp [b4]; omega
theorem topB_bt {a : List Int} (hd : Wd a) (k : Nat) : Bt (topB a k) := by
  intro x hx
  unfold topB at hx
  rw [List.mem_flatMap] at hx
  obtain ⟨i, -, hi⟩ := hx
  have := hd.getD (a.length - 1 - i)
  exact b4_bt this.1 this.2 x hi
/-- The encoding of a sum whose total has the words a. -/
def encB (f : Nat) (neg : Bool) (a : List Int) : List Int := [(f : Int) + (if neg then 32 else 0), (lowW a : Int), (a.length : Int) - lowW a] ++ topB a (a.length - lowW a)
theorem encB_len (f : Nat) (neg : Bool) (a : List Int) : (encB f neg a).length = 3 + 4 * (a.length - lowW a) := by
  unfold encB; rw [List.length_append, topB_len]; rfl
theorem encB_bt {f : Nat} {neg : Bool} {a : List Int} (hf : f < 32) (hd : Wd a) (hl : a.length ≤ 70) : Bt (encB f neg a) := by
  intro x hx
  unfold encB at hx
  rw [List.mem_append] at hx
  rcases hx with h | h
  · have := lowW_le a
    simp at h
    rcases h with rfl | rfl | rfl
    · split <;> omega
    · omega
    · omega
  · exact topB_bt hd _ x h
/-- The number of noughts, cut to words. -/
theorem low_halved {a : List Int} {n : Nat} (hd : Wd a) (ht : Tidy a) (h : Halved (wv a) n) : n / 32 = lowW a := by
  by_cases hne : a = []
  · subst hne
    rcases h with ⟨-, rfl⟩ | ⟨m, hm⟩
    · rfl
    · have : (0 : Int) < 2 ^ n * (2 * m + 1) := Int.mul_pos (Int.pow_pos (by decide)) (by omega)
      rw [← hm] at this
      simp [wv, wvN] at this
  · have hk := lowW_lt ht hne
    have h0 := lowW_ne a hk
    obtain ⟨S, hS⟩ := Int.eq_ofNat_of_zero_le (hd.getD (lowW a)).1
    have hS1 : S < 4294967296 := by have := (hd.getD (lowW a)).2; omega
    have hS0 : S ≠ 0 := by omega
    have h1 := halved_words hd hk (lowW_zero a) S hS hS0
    have h2 := halved_unique h h1
    obtain ⟨m, hm, hlt⟩ := Lib.ctzFrom_spec 32 S (by omega) hS1
    have hc : Lib.ctz 32 S = Lib.ctzFrom 32 S := by simp [Lib.ctz, hS0]
    rw [hc] at h2
    omega
def IsEnc (f : Nat) (t : Int) (l : List Int) : Prop := ∃ a, Wd a ∧ Tidy a ∧ wv a = (t.natAbs : Int) ∧ a.length ≤ 70 ∧ l = encB f (decide (t < 0)) a
theorem IsEnc.unique {f : Nat} {t : Int} {l m : List Int} (h : IsEnc f t l) (k : IsEnc f t m) : l = m := by
  obtain ⟨a, a1, a2, a3, -, rfl⟩ := h
  obtain ⟨b, b1, b2, b3, -, rfl⟩ := k
  rw [tidy_unique a1 b1 a2 b2 (by omega)]
theorem IsEnc.len {f : Nat} {t : Int} {l : List Int} (h : IsEnc f t l) : 3 ≤ l.length ∧ l.length ≤ 283 := by
  obtain ⟨a, -, -, -, h4, rfl⟩ := h
  rw [encB_len]; omega
theorem IsEnc.bt {f : Nat} {t : Int} {l : List Int} (h : IsEnc f t l) (hf : f < 32) : Bt l := by
  obtain ⟨a, h1, -, -, h4, rfl⟩ := h
  exact encB_bt hf h1 h4
theorem SumAt.enc {w : World} {N f : Nat} {t : Int} (h : SumAt w N f t) : ∃ l, IsEnc f t l := by
  obtain ⟨v, -, h2, h3⟩ := h
  obtain ⟨a, a1, a2, a3, a4⟩ := h2.list h3.2.2
  exact ⟨_, a, a1.2.1, a2, a3, a4, rfl⟩
theorem own_slice3 {w : World} {B E : Nat} {v : Value} {n : Nat} {xs : List Value} (h : w.ownsRow B E 1 v n xs) : ∃ a l c, v = .slice a l c := by
  obtain ⟨a, c, e⟩ := own_slice h
  exact ⟨a, n, c, e⟩
theorem own3 (w : World) (B : Nat) (x y z : Int) (hB : B ≤ w.heap.size) : BOwn (w.alloc (.cells #[.int .u8 x, .int .u8 y, .int .u8 z] 5)) B (.slice (some ⟨w.heap.size, 0, none⟩) 3 3) [x, y, z] :=
  ⟨by simp, .inr ⟨w.heap.size, 3, _, rfl, hB, heap_alloc_new w _, by simp, by decide, by simp, by simp⟩⟩
theorem or32 : ∀ f : Nat, f < 32 → f ||| 32 = f + 32 := by decide +kernel
def BytesP (w : World) (l : List Int) (e : Ending) (w' : World) : Prop := (∃ v, e = .returned v ∧ BOwn w' w.heap.size v l) ∧ Below w.heap.size w w'
set_option maxHeartbeats 4000000 in
theorem pbytes_any (w : World) (N f : Nat) (t : Int) (l : List Int) (hs : SumAt w N f t) (hl : IsEnc f t l) (hT : Tab w) :
    Calls Tryd.prog 9 #[.pointer (some ⟨N, 0, none⟩)] w (BytesP w l) := by
  have HU := Lib.hid (show Calls Tryd.prog 25 #[.pointer (some ⟨N, 0, none⟩)] w fun e w' => e = .returned (.bool true) ∧ w = w' by obtain ⟨v, h, -⟩ := hs; exact usable_any w N _ _ _ _ h)
  obtain ⟨v, c1, m1, hg⟩ := hs
  obtain ⟨a, ha, ht, hz, hn⟩ := m1.list hg.2.2
  obtain ⟨a', d1, d2, d3, -, hl⟩ := hl
  obtain rfl : a' = a := tidy_unique d1 ha.2.1 d2 ht (by omega)
  have HNo := Lib.hid (show Calls Tryd.prog 26 #[v] w fun e w' => ∃ n : Nat, e = .returned (.int .i64 n) ∧ (n : Int) / 32 = lowW a' ∧ w = w' from (noughts_any v a' w ha hT).mono fun e w' ⟨n, h1, h2, h3⟩ => ⟨n, h1, by have := low_halved d1 d2 h2; omega, h3⟩)
  have hlw := lowW_le a'
  have HA := Lib.hid (fun w1 (h : Below w.heap.size w w1) => ha.below h)
  have HC := Lib.hid (fun w1 (h : Below w.heap.size w w1) => c1.below h)
  have HX := Lib.hid (fun k => d1.getD k)
  unfold encB at hl
  have hor := or_u8_nat f 32 (by have := hg.1; omega) (by decide)
  rw [or32 f hg.1] at hor
  have hor2 : bits .or .u8 (f : Int) 32 = (f : Int) + 32 := by simpa using hor
  have hf := hg.1
  have HTB := Lib.hid (topB_len a')
  have HTS := Lib.hid (topB_succ a')
  obtain ⟨r0, r1, r2, -⟩ := c1.reads
  obtain ⟨p, c, rfl⟩ := ha.shape
  generalize topB a' = TB at *
  generalize hal : a'.length = al at *
  have Hal := Lib.hid hal
  generalize lowW a' = lw at *
  generalize decide (t < 0) = x at *
  have HL := Lib.hid hl
  clear c1 m1 hg ha ht hz d1 d2 d3 hT hor hal hl
  cases x
  · clear hor2
    simp only [Bool.false_eq_true, if_false, Int.add_zero] at HL
    go_enter Tryd.func9, Tryd.ntmps9
    go_wp2_with fail
    refine (HU.out).mono ?_; rintro e w1 ⟨rfl, rfl⟩
    go_wp2_with fail
    refine (HNo.out).mono ?_; rintro e w1 ⟨n, rfl, hn32, rfl⟩
    go_wp2_with fail
    have hO := own3 w w.heap.size ((f : Int)) lw ((al : Int) - lw) (Nat.le_refl _)
    have hBs := below_one w (.cells #[.int .u8 ((f : Int)), .int .u8 lw, .int .u8 ((al : Int) - lw)] 5)
    clear hn32 HNo HU r0 r1 r2
    have hT0 : TB 0 = [] := List.length_eq_zero_iff.1 (by rw [HTB.out])
    go_loopw [6, 41] (fun bv i wr => ∃ k : Nat, k ≤ al - lw ∧ i = .int .i64 k ∧ Hid (BOwn wr w.heap.size bv ([(f : Int), (lw : Int), (al : Int) - lw] ++ TB k)) ∧ Hid (Below w.heap.size w wr)) (fun _ i _ => (al - lw) - (intOf i).toNat)
    case atStart => exact ⟨0, Nat.zero_le _, rfl, Lib.hid (by rw [hT0, List.append_nil]; exact hO), Lib.hid hBs⟩
    case round =>
      obtain ⟨k, hk, rfl, hown, hb⟩ := hrel
      clear hO hBs hT0
      by_cases hlt : k < al - lw
      · obtain ⟨b, off, hp, hbl, hcell⟩ := (HA.out w (Below.refl _ _)).1.cell (i := al - 1 - k) (by rw [Hal.out]; omega)
        have hx := HX.out (al - 1 - k)
        have hT1 := HTS.out k
        obtain ⟨j, hj⟩ : ∃ j, al - 1 - k = j := ⟨_, rfl⟩
        rw [hj] at hx hcell hT1
        have hlen := HTB.out k
        generalize a'.getD j 0 = z at *
        have HT1 := Lib.hid hT1
        have hc := hb.out.cell (p := ⟨b, off + j, none⟩) hbl
        rw [hcell] at hc
        have hN : N < w.heap.size := (HC.out w (Below.refl _ _)).lt
        have hr := (HC.out w (Below.refl _ _)).reads.1
        have hcN := hb.out.cell (p := ⟨N, 0, none⟩) hN
        rw [hr] at hcN
        have hln : ([(f : Int), (lw : Int), (al : Int) - lw] ++ TB k).length ≤ 100000 := by simp [hlen]; omega
        have HLn := Lib.hid hln
        obtain ⟨q1, q2⟩ := hx
        subst hp
        clear hcell hT1 hlen hr hln
        have i1 : (k : Int) < (al : Int) - lw := by omega
        have i2 : (0 : Int) ≤ (j : Int) := by omega
        have i3 : (j : Int) < (al : Int) := by omega
        have hsz := hb.out.size
        have hown2 := Lib.hid (show BOwn wr.drew w.heap.size _ _ from hown.out)
        have i5 : IntKind.i64.wrap ((al : Int) - 1) = (al : Int) - 1 := IntWalk.i64_in _ (by omega)
        have i6 : IntKind.i64.wrap ((al : Int) - 1 - k) = (j : Int) := by rw [IntWalk.i64_in _ (by omega)]; omega
        clear hj
        go_upto_region 12 with fail
        have hk2 : wr.drew.cell? ⟨N, 0, none⟩ = some (.slice (some ⟨b, off, none⟩) al c) ∧ wr.drew.cell? ⟨b, off + j, none⟩ = some (.int .u32 z) := ⟨by simp [hcN], by simp [hc]⟩
        go_region_held3 (fun w' => w'.cell? ⟨N, 0, none⟩ = some (.slice (some ⟨b, off, none⟩) al c) ∧ w'.cell? ⟨b, off + j, none⟩ = some (.int .u32 z)) (with_reducible exact hk2)
          ((go_at_call 27; refine (append_word _ _ z w.heap.size _ hown2.out hsz HLn.out q1 q2).mono ?_; rintro e w2 ⟨⟨v', rfl, ho⟩, hb2⟩; have hk2 := And.intro ((hb2.cell (p := ⟨N, 0, none⟩) hN).trans hk2.1) ((hb2.cell (p := ⟨b, off + j, none⟩) hbl).trans hk2.2); have HO2 := Lib.hid ho; have HB2 := Lib.hid (hb.out.trans ((Below.refl _ _).drew.trans hb2)); obtain ⟨pa, pl, pc, rfl⟩ := own_slice3 ho; clear ho hb2))
        clear hk2 i2 i3 i5 i6 hc hcN hown2
        go_wp2_with fail
        go_roundw
        case rel => exact ⟨k + 1, by omega, by go_num, Lib.hid (by rw [HT1.out, ← List.append_assoc]; exact HO2.out), HB2⟩
        case measure => simp [intOf]; omega
      · obtain rfl : k = al - lw := by omega
        have i1 : ¬ ((al - lw : Nat) : Int) < (al : Int) - lw := by omega
        obtain ⟨pa, pl, pc, rfl⟩ := own_slice3 hown.out
        go_wp2_with fail
        go_ret
        exact ⟨⟨_, rfl, by rw [HL.out]; exact hown.out⟩, hb.out⟩
  · simp only [if_true] at HL
    go_enter Tryd.func9, Tryd.ntmps9
    go_wp2_with fail
    refine (HU.out).mono ?_; rintro e w1 ⟨rfl, rfl⟩
    go_wp2_with fail
    refine (HNo.out).mono ?_; rintro e w1 ⟨n, rfl, hn32, rfl⟩
    go_wp2_with fail
    have hO := own3 w w.heap.size ((f : Int) + 32) lw ((al : Int) - lw) (Nat.le_refl _)
    have hBs := below_one w (.cells #[.int .u8 ((f : Int) + 32), .int .u8 lw, .int .u8 ((al : Int) - lw)] 5)
    clear hn32 HNo HU r0 r1 r2
    have hT0 : TB 0 = [] := List.length_eq_zero_iff.1 (by rw [HTB.out])
    go_loopw [6, 41] (fun bv i wr => ∃ k : Nat, k ≤ al - lw ∧ i = .int .i64 k ∧ Hid (BOwn wr w.heap.size bv ([(f : Int) + 32, (lw : Int), (al : Int) - lw] ++ TB k)) ∧ Hid (Below w.heap.size w wr)) (fun _ i _ => (al - lw) - (intOf i).toNat)
    case atStart => exact ⟨0, Nat.zero_le _, rfl, Lib.hid (by rw [hT0, List.append_nil]; exact hO), Lib.hid hBs⟩
    case round =>
      obtain ⟨k, hk, rfl, hown, hb⟩ := hrel
      clear hO hBs hT0
      by_cases hlt : k < al - lw
      · obtain ⟨b, off, hp, hbl, hcell⟩ := (HA.out w (Below.refl _ _)).1.cell (i := al - 1 - k) (by rw [Hal.out]; omega)
        have hx := HX.out (al - 1 - k)
        have hT1 := HTS.out k
        obtain ⟨j, hj⟩ : ∃ j, al - 1 - k = j := ⟨_, rfl⟩
        rw [hj] at hx hcell hT1
        have hlen := HTB.out k
        generalize a'.getD j 0 = z at *
        have HT1 := Lib.hid hT1
        have hc := hb.out.cell (p := ⟨b, off + j, none⟩) hbl
        rw [hcell] at hc
        have hN : N < w.heap.size := (HC.out w (Below.refl _ _)).lt
        have hr := (HC.out w (Below.refl _ _)).reads.1
        have hcN := hb.out.cell (p := ⟨N, 0, none⟩) hN
        rw [hr] at hcN
        have hln : ([(f : Int) + 32, (lw : Int), (al : Int) - lw] ++ TB k).length ≤ 100000 := by simp [hlen]; omega
        have HLn := Lib.hid hln
        obtain ⟨q1, q2⟩ := hx
        subst hp
        clear hcell hT1 hlen hr hln
        have i1 : (k : Int) < (al : Int) - lw := by omega
        have i2 : (0 : Int) ≤ (j : Int) := by omega
        have i3 : (j : Int) < (al : Int) := by omega
        have hsz := hb.out.size
        have hown2 := Lib.hid (show BOwn wr.drew w.heap.size _ _ from hown.out)
        have i5 : IntKind.i64.wrap ((al : Int) - 1) = (al : Int) - 1 := IntWalk.i64_in _ (by omega)
        have i6 : IntKind.i64.wrap ((al : Int) - 1 - k) = (j : Int) := by rw [IntWalk.i64_in _ (by omega)]; omega
        clear hj
        go_upto_region 12 with fail
        have hk2 : wr.drew.cell? ⟨N, 0, none⟩ = some (.slice (some ⟨b, off, none⟩) al c) ∧ wr.drew.cell? ⟨b, off + j, none⟩ = some (.int .u32 z) := ⟨by simp [hcN], by simp [hc]⟩
        go_region_held3 (fun w' => w'.cell? ⟨N, 0, none⟩ = some (.slice (some ⟨b, off, none⟩) al c) ∧ w'.cell? ⟨b, off + j, none⟩ = some (.int .u32 z)) (with_reducible exact hk2)
          ((go_at_call 27; refine (append_word _ _ z w.heap.size _ hown2.out hsz HLn.out q1 q2).mono ?_; rintro e w2 ⟨⟨v', rfl, ho⟩, hb2⟩; have hk2 := And.intro ((hb2.cell (p := ⟨N, 0, none⟩) hN).trans hk2.1) ((hb2.cell (p := ⟨b, off + j, none⟩) hbl).trans hk2.2); have HO2 := Lib.hid ho; have HB2 := Lib.hid (hb.out.trans ((Below.refl _ _).drew.trans hb2)); obtain ⟨pa, pl, pc, rfl⟩ := own_slice3 ho; clear ho hb2))
        clear hk2 i2 i3 i5 i6 hc hcN hown2
        go_wp2_with fail
        go_roundw
        case rel => exact ⟨k + 1, by omega, by go_num, Lib.hid (by rw [HT1.out, ← List.append_assoc]; exact HO2.out), HB2⟩
        case measure => simp [intOf]; omega
      · obtain rfl : k = al - lw := by omega
        have i1 : ¬ ((al - lw : Nat) : Int) < (al : Int) - lw := by omega
        obtain ⟨pa, pl, pc, rfl⟩ := own_slice3 hown.out
        go_wp2_with fail
        go_ret
        exact ⟨⟨_, rfl, by rw [HL.out]; exact hown.out⟩, hb.out⟩
set_option maxRecDepth 100000
open Go.RowKit
set_option linter.unusedVariables false
/-- A slice value reads as these floats. -/
def Flts (w : World) (v : Value) (xs : List Nat) : Prop :=
  (∃ a cap, v = .slice a xs.length cap ∧ xs.length ≤ cap ∧ (xs = [] ∨ ∃ b off, a = some ⟨b, off, none⟩ ∧ b < w.heap.size ∧ ∀ i, i < xs.length → w.cell? ⟨b, off + i, none⟩ = some (.float .f64 (xs.getD i 0)))) ∧ ∀ i, W64 (xs.getD i 0)
theorem Flts.shape {w : World} {v : Value} {xs : List Nat} (h : Flts w v xs) : ∃ p c, v = .slice p xs.length c := by
  obtain ⟨⟨a, c, rfl, -⟩, -⟩ := h
  exact ⟨a, c, rfl⟩
theorem Flts.cell {w : World} {p : Option Addr} {l c : Nat} {xs : List Nat} (h : Flts w (.slice p l c) xs) {i : Nat} (hi : i < xs.length) : ∃ b off, p = some ⟨b, off, none⟩ ∧ b < w.heap.size ∧ w.cell? ⟨b, off + i, none⟩ = some (.float .f64 (xs.getD i 0)) := by
  obtain ⟨⟨a, c', e, -, hc⟩, -⟩ := h
  simp only [Value.slice.injEq] at e
  obtain ⟨rfl, -, -⟩ := e
  rcases hc with rfl | ⟨b, off, rfl, hb, hcell⟩
  · simp at hi
  · exact ⟨b, off, rfl, hb, hcell i hi⟩
theorem Flts.below {w w' : World} {v : Value} {xs : List Nat} (h : Flts w v xs) (hb : Below w.heap.size w w') : Flts w' v xs := by
  obtain ⟨⟨a, c, rfl, hl, hc⟩, hx⟩ := h
  refine ⟨⟨a, c, rfl, hl, hc.imp id ?_⟩, hx⟩
  rintro ⟨b, off, rfl, hbl, hcell⟩
  exact ⟨b, off, rfl, Nat.lt_of_lt_of_le hbl hb.size, fun i hi => (hb.cell (p := ⟨b, off + i, none⟩) hbl).trans (hcell i hi)⟩
def totF (xs : List Nat) : Nat := xs.foldl (fun f x => f ||| flagN x) 0
def totT (xs : List Nat) : Int := xs.foldl (fun t x => t + unitsI x) 0
theorem totF_snoc (xs : List Nat) (x : Nat) : totF (xs ++ [x]) = totF xs ||| flagN x := by unfold totF; rw [List.foldl_append]; rfl
theorem totT_snoc (xs : List Nat) (x : Nat) : totT (xs ++ [x]) = totT xs + unitsI x := by unfold totT; rw [List.foldl_append]; rfl
theorem take_snocN (l : List Nat) (k : Nat) (h : k < l.length) : l.take (k + 1) = l.take k ++ [l.getD k 0] := by
  rw [List.take_succ_eq_append_getElem h]; simp [List.getD, h]
theorem totT_fewer {xs : List Nat} (h : ∀ i, W64 (xs.getD i 0)) : ∀ k, k ≤ xs.length → Fewer k (totT (xs.take k))
  | 0, _ => by rw [List.take_zero]; exact Fewer.zero
  | k + 1, hk => by
    rw [take_snocN xs k (by omega), totT_snoc]
    exact (totT_fewer h k (by omega)).add (fewer_one _ (h k))
set_option maxHeartbeats 2000000 in
theorem ptotal_any (v : Value) (xs : List Nat) (w : World) (hv : Flts w v xs) (hl : xs.length ≤ 900) (hT : Tab w) (hT2 : Tab64 w) :
    Calls Tryd.prog 15 #[v] w (ValueP (valueW (totF xs) (totT xs)) w) := by
  have HF := Lib.hid (totT_fewer hv.2)
  have HV := Lib.hid (fun w1 (h : Below w.heap.size w w1) => hv.below h)
  have HT := Lib.hid (fun w1 (h : Below w.heap.size w w1) => And.intro (hT.call h) (hT2.call h))
  have HW := Lib.hid hv.2
  obtain ⟨R, hR⟩ : ∃ R, valueW (totF xs) (totT xs) = R := ⟨_, rfl⟩
  rw [hR]
  have HR := Lib.hid hR
  obtain ⟨p, c, rfl⟩ := hv.shape
  obtain ⟨n, hn⟩ : ∃ n, xs.length = n := ⟨_, rfl⟩
  rw [hn] at HF hl HV ⊢
  have Hn := Lib.hid hn
  clear hv hT hT2 hR hn
  unfold ValueP
  go_enter Tryd.func15, Tryd.ntmps15
  go_wp2_with fail
  refine (xnew_any _).mono ?_; rintro e w1 ⟨rfl, rfl⟩
  have hS0 := sum_new w
  have hB0 := below_one w (.cells #[.slice none 0 0, .bool false, .int .u8 0, .bool true] 53)
  go_wp2_with fail
  go_loopw [9] (fun i wr => ∃ k : Nat, k ≤ n ∧ i = .int .i64 k ∧ Hid (SumAt wr w.heap.size (totF (xs.take k)) (totT (xs.take k))) ∧ Hid (Below w.heap.size w wr)) (fun i _ => n - (intOf i).toNat)
  case atStart => exact ⟨0, Nat.zero_le _, rfl, Lib.hid hS0, Lib.hid hB0⟩
  case round =>
    obtain ⟨k, hk, rfl, hs, hb⟩ := hrel
    clear hS0 hB0
    by_cases hlt : k < n
    · obtain ⟨b, off, hp, hbl, hcell⟩ := (HV.out wr hb.out).cell (i := k) (by rw [Hn.out]; omega)
      have hfe := HF.out (k + 1) (by omega)
      have hx := HW.out k
      have ht := take_snocN xs k (by rw [Hn.out]; omega)
      generalize xs.getD k 0 = x at *
      rw [ht, totT_snoc] at hfe
      have HA := Lib.hid (padd_fit wr w.heap.size _ x _ hs.out hx (HT.out wr hb.out).2 (hfe.fits (by omega)))
      rw [← totF_snoc, ← totT_snoc, ← ht] at HA
      subst hp
      clear hfe ht hbl hs
      go_wp2_with fail
      refine (HA.out).mono ?_; rintro e w2 ⟨rfl, h1, h2⟩
      have H1 := Lib.hid h1
      have H2 := Lib.hid (hb.out.grown h2 hb.out.size (fun j hj => by simp only [Option.some.injEq] at hj; omega))
      clear h1 h2 HA hcell
      go_wp2_with fail
      go_roundw
      case rel => exact ⟨k + 1, by omega, by go_num, H1, H2⟩
      case measure => simp [intOf]; omega
    · obtain rfl : k = n := by omega
      have HVl := Lib.hid (pvalue_any wr w.heap.size _ _ hs.out (HT.out wr hb.out).1)
      rw [← Hn.out, List.take_length, HR.out] at HVl
      clear hs HF
      go_wp2_with fail
      refine (HVl.out).mono ?_; rintro e w2 ⟨rfl, h2⟩
      have HE := Lib.hid (below_then hb.out h2)
      clear h2 HVl
      go_wp2_with fail
      go_ret
      exact ⟨rfl, HE.out⟩
set_option maxRecDepth 100000
open Go.RowKit
set_option linter.unusedVariables false
/-- The mean of a sum in a state, as a word. -/
def meanW (f : Nat) (t n : Int) : Nat := if n < 1 then 9221120237041090561 else if (f.testBit 0 || f.testBit 1 || f.testBit 2) = true ∨ t = 0 then valueW f t else signN (decide (t < 0)) (nearQ t.natAbs n.natAbs (-1074))
theorem quo_mean {p q K : Nat} (hp : p ≠ 0) (hq : q ≠ 0) (hK : (1074 : Int) = K) : quoN p (q * 2 ^ K) = nearQ p q (-1074) := by
  unfold quoN
  have hq2 : q * 2 ^ K ≠ 0 := Nat.mul_ne_zero hq (Nat.ne_of_gt (Nat.two_pow_pos _))
  rw [if_neg (by omega), nearQ_unit (by omega), hK]
theorem unit_bits {n K : Nat} (hn : n ≠ 0) (hn2 : n ≤ 9223372036854775807) (hK : K ≤ 1074) : bitsZ ((n * 2 ^ K : Nat) : Int) ≤ 3000 := by
  have h64 : (2 : Nat) ^ 64 = 18446744073709551616 := by decide
  have h2 : n * 2 ^ K < 2 ^ 64 * 2 ^ K := Nat.mul_lt_mul_of_pos_right (by omega) (Nat.two_pow_pos _)
  rw [← Nat.pow_add] at h2
  exact Nat.le_trans (bits_upto (Nat.mul_ne_zero hn (Nat.ne_of_gt (Nat.two_pow_pos _))) h2) (by omega)
/-- A pointer behind which no sum stands. -/
def NoSum (w : World) (q : Option Addr) : Prop := ∀ w', Below w.heap.size w w' → Calls Tryd.prog 25 #[.pointer q] w' fun e w'' => e = .returned (.bool false) ∧ w' = w''
theorem noSum_nil (w : World) : NoSum w none := fun w' _ => usable_nil w'
theorem noSum_made (w : World) (N : Nat) (v : Value) (b : Bool) (f : Nat) (h : Cells4 w N v b f false) : NoSum w (some ⟨N, 0, none⟩) := fun w' hb => usable_any w' N _ _ _ _ (h.below hb)
theorem NoSum.below {w w' : World} {q : Option Addr} (h : NoSum w q) (hb : Below w.heap.size w w') : NoSum w' q := fun w2 hb2 => h w2 (below_then hb hb2)
set_option maxHeartbeats 1000000 in
theorem join_no1 (w : World) (q r : Option Addr) (h : NoSum w q) : Calls Tryd.prog 10 #[.pointer q, .pointer r] w fun e w' => e = .returned (.bool false) ∧ w = w' := by
  have H := Lib.hid (h w (Below.refl _ _))
  clear h
  go_enter Tryd.func10, Tryd.ntmps10
  go_wp2_with fail
  refine (H.out).mono ?_; rintro e w1 ⟨rfl, rfl⟩
  go_wp2_with fail
  go_ret
  exact ⟨rfl, rfl⟩
set_option maxHeartbeats 1000000 in
theorem join_no2 (w : World) (N f : Nat) (t : Int) (r : Option Addr) (hs : SumAt w N f t) (h : NoSum w r) : Calls Tryd.prog 10 #[.pointer (some ⟨N, 0, none⟩), .pointer r] w fun e w' => e = .returned (.bool false) ∧ w = w' := by
  have H := Lib.hid (h w (Below.refl _ _))
  have HU := Lib.hid (show Calls Tryd.prog 25 #[.pointer (some ⟨N, 0, none⟩)] w fun e w' => e = .returned (.bool true) ∧ w = w' by obtain ⟨v, h, -⟩ := hs; exact usable_any w N _ _ _ _ h)
  clear h hs
  go_enter Tryd.func10, Tryd.ntmps10
  go_wp2_with fail
  refine (HU.out).mono ?_; rintro e w1 ⟨rfl, rfl⟩
  go_wp2_with fail
  refine (H.out).mono ?_; rintro e w1 ⟨rfl, rfl⟩
  go_wp2_with fail
  go_ret
  exact ⟨rfl, rfl⟩
set_option maxHeartbeats 1000000 in
theorem add_no (w : World) (q : Option Addr) (x : Nat) (h : NoSum w q) (hx : W64 x) (hT : Tab64 w) : Calls Tryd.prog 13 #[.pointer q, .float .f64 x] w (OverP w) := by
  have HA := Lib.hid (alone_any x w hx hT)
  have H := Lib.hid (fun w1 (hb : Below w.heap.size w w1) r => join_no1 w1 q r (h.below hb))
  unfold OverP
  clear h hx hT
  go_enter Tryd.func13, Tryd.ntmps13
  go_wp2_with fail
  refine (HA.out).mono ?_; rintro e w1 ⟨rfl, -, hb⟩
  have HJ := Lib.hid (H.out w1 hb (some ⟨w.heap.size, 0, none⟩))
  have HB := Lib.hid hb
  clear hb HA H
  go_wp2_with fail
  refine (HJ.out).mono ?_; rintro e w2 ⟨rfl, rfl⟩
  go_wp2_with fail
  go_ret
  exact ⟨rfl, HB.out⟩
theorem value_no (w : World) (q : Option Addr) (h : NoSum w q) : Calls Tryd.prog 22 #[.pointer q] w fun e w' => e = .returned (.float .f64 0) ∧ w = w' := by
  have H := Lib.hid (h w (Below.refl _ _))
  clear h
  go_enter Tryd.func22, Tryd.ntmps22
  go_wp2_with fail
  refine (H.out).mono ?_; rintro e w1 ⟨rfl, rfl⟩
  go_wp2_with fail
  go_ret
  exact ⟨rfl, rfl⟩
theorem bytes_no (w : World) (q : Option Addr) (h : NoSum w q) : Calls Tryd.prog 9 #[.pointer q] w fun e w' => e = .returned (.slice none 0 0) ∧ w = w' := by
  have H := Lib.hid (h w (Below.refl _ _))
  clear h
  go_enter Tryd.func9, Tryd.ntmps9
  go_wp2_with fail
  refine (H.out).mono ?_; rintro e w1 ⟨rfl, rfl⟩
  go_wp2_with fail
  go_ret
  exact ⟨rfl, rfl⟩
set_option maxRecDepth 100000
open Go.RowKit
set_option linter.unusedVariables false
theorem awake_flag : totF [4845873199050653696, 4607182418800017408, 14069245235905429504] = 16 := by decide +kernel
theorem awake_total : totT [4845873199050653696, 4607182418800017408, 14069245235905429504] = unitsI 4607182418800017408 := by decide +kernel
theorem awake_val : valueW (totF [4845873199050653696, 4607182418800017408, 14069245235905429504]) (totT [4845873199050653696, 4607182418800017408, 14069245235905429504]) = 4607182418800017408 := by
  rw [awake_flag, awake_total]
  have hk : kindI 4607182418800017408 = 1 := by decide +kernel
  have hn := units_neg (x := 4607182418800017408) (by decide) hk
  have hb : negB 4607182418800017408 = false := by decide +kernel
  have hr := (near_float (r := 4607182418800017408) (by decide) (by decide)).1
  have hu : unitsI 4607182418800017408 = ((unitsN 4607182418800017408 : Nat) : Int) := by
    unfold unitsI
    rw [if_pos hk, hb]
    rfl
  rw [hb] at hn
  unfold valueW
  rw [hn, hu, Int.natAbs_natCast, hr]
  rfl
theorem flts3 (w : World) (x y z : Nat) (hx : W64 x) (hy : W64 y) (hz : W64 z) : Flts (w.alloc (.cells #[.float .f64 x, .float .f64 y, .float .f64 z] 38)) (.slice (some ⟨w.heap.size, 0, none⟩) 3 3) [x, y, z] := by

  refine ⟨⟨_, 3, rfl, by simp, .inr ⟨w.heap.size, 0, rfl, by simp, fun i hi => ?_⟩⟩, fun i => ?_⟩
  · have : i = 0 ∨ i = 1 ∨ i = 2 := by simp at hi; omega
    rcases this with rfl | rfl | rfl <;> simp [go_sem]
  · by_cases h0 : i = 0
    · subst h0; exact hx
    · by_cases h1 : i = 1
      · subst h1; exact hy
      · by_cases h2 : i = 2
        · subst h2; exact hz
        · have : ([x, y, z].getD i 0) = 0 := by simp [List.getD, List.getElem?_eq_none (show [x, y, z].length ≤ i by simp; omega)]
          rw [this]; decide
theorem enc_zero : IsEnc 0 0 [0, 0, 0] := ⟨[], Wd.nil, .inl rfl, by simp [wv, wvN], by simp, rfl⟩
set_option maxHeartbeats 2000000 in
theorem awake5_any (w : World) (hT : Tab w) (hT2 : Tab64 w) : Calls Tryd.prog 5 #[] w fun e w' => e = .returned (.bool true) ∧ Below w.heap.size w w' := by
  have HB := Lib.hid (pbytes_any (w.alloc (.cells #[.slice none 0 0, .bool false, .int .u8 0, .bool true] 53)) w.heap.size 0 0 [0, 0, 0] (sum_new w) enc_zero (hT.call (below_one w _)))
  have HTo := Lib.hid (fun w1 v (hb : Below w.heap.size w w1) (hv : Flts w1 v [4845873199050653696, 4607182418800017408, 14069245235905429504]) => ptotal_any v _ w1 hv (by decide) (hT.call hb) (hT2.call hb))
  rw [awake_val] at HTo
  have hop : (FloatKind.f64.format.order 4607182418800017408 4607182418800017408 == some .eq) = true := by decide +kernel
  unfold ValueP at HTo
  unfold BytesP at HB
  clear hT hT2
  go_enter Tryd.func5, Tryd.ntmps5
  go_wp2_with fail
  refine (xnew_any _).mono ?_; rintro e w1 ⟨rfl, rfl⟩
  go_wp2_with fail
  refine (HB.out).mono ?_; rintro e w1 ⟨⟨v, rfl, ho⟩, hb⟩
  have hB1 := below_then (below_one w _) hb
  have hF := flts3 w1 4845873199050653696 4607182418800017408 14069245235905429504 (by decide) (by decide) (by decide)
  have hB2 := below_then hB1 (below_one w1 (.cells #[.float .f64 4845873199050653696, .float .f64 4607182418800017408, .float .f64 14069245235905429504] 38))
  have HT1 := Lib.hid (HTo.out _ _ hB2 hF)
  have HB2 := Lib.hid hB2
  obtain ⟨g, cap, hg, hc⟩ : ∃ g cap, v = .slice (some ⟨g, 0, none⟩) 3 cap ∧ (∀ j, j < 3 → w1.cell? ⟨g, j, none⟩ = some (.int .u8 0)) := by
    have hi := Ints.own ho
    obtain ⟨a, c, rfl, -, h | ⟨b, off, rfl, hb, hcell⟩⟩ := hi
    · cases h
    · rcases ho.2 with ⟨h, -⟩ | ⟨g, cap, cur, h, -⟩
      · cases h
      · simp only [Value.slice.injEq, Option.some.injEq, Addr.mk.injEq] at h
        obtain ⟨⟨rfl, rfl, -⟩, -, rfl⟩ := h
        refine ⟨_, _, rfl, fun j hj => ?_⟩
        have h2 := hcell j hj
        have : j = 0 ∨ j = 1 ∨ j = 2 := by omega
        rcases this with rfl | rfl | rfl <;> simpa using h2
  subst hg
  have c0 := hc 0 (by decide)
  have c1 := hc 1 (by decide)
  have c2 := hc 2 (by decide)
  have HC := Lib.hid (And.intro c0 (And.intro c1 c2))
  clear ho hb hB1 hF hB2 hc HB HTo c0 c1 c2
  go_wp2_with fail
  refine (HT1.out).mono ?_; rintro e w2 ⟨rfl, hb⟩
  have HE := Lib.hid (below_then HB2.out hb)
  have c0 := cell_later hb (cell_later (below_one w1 _) HC.out.1)
  have c1 := cell_later hb (cell_later (below_one w1 _) HC.out.2.1)
  have c2 := cell_later hb (cell_later (below_one w1 _) HC.out.2.2)
  clear hb HT1 HB2 HC
  go_wp2_with fail
  go_ret
  exact ⟨rfl, HE.out⟩
end Go.Proofs.YtflhicfbojmjbaaDoor
