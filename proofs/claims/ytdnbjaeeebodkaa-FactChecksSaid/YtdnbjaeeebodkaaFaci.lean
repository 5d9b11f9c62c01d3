/- Layer 12: the reference's All, Light. -/
import Derived.Test.YtdnbjaeeebodkaaFach
namespace Go.Proofs.Ytdnbjaeeebodkaa
set_option maxRecDepth 100000
open Go.RowKit
set_option linter.unusedVariables false
theorem fs_len {l m : List Fa} (h : l.length ≠ m.length) : sameFs l m = false := by
  unfold sameFs
  rw [decide_eq_false_iff_not]
  intro e
  have := congrArg List.length e
  simp only [List.length_map] at this
  exact h this
theorem fs_bad {l m : List Fa} {k : Nat} (h1 : k < l.length) (h2 : k < m.length) (h : sameFa l[k] m[k] = false) : sameFs l m = false := by
  unfold sameFs
  unfold sameFa at h
  rw [decide_eq_false_iff_not] at h ⊢
  intro e
  refine h ?_
  have e1 : (l.map keyF)[k]? = (m.map keyF)[k]? := by rw [e]
  simpa [h1, h2] using e1
theorem fs_good {l m : List Fa} (h1 : l.length = m.length) (h : ∀ j, (hj : j < l.length) → (hj2 : j < m.length) → sameFa l[j] m[j] = true) : sameFs l m = true := by
  unfold sameFs
  rw [decide_eq_true_iff]
  apply List.ext_getElem (by simpa using h1)
  intro i h2 h3
  simp only [List.length_map] at h2 h3
  have := h i h2 h3
  unfold sameFa at this
  simpa using of_decide_eq_true this
theorem six_hold {w w' : World} (hb : Below w.heap.size w w') {p0 p1 p2 q0 q1 q2 : Addr} {a0 a1 a2 b0 b1 b2 : Value}
    (h : w.cell? p0 = some a0 ∧ w.cell? p1 = some a1 ∧ w.cell? p2 = some a2 ∧ w.cell? q0 = some b0 ∧ w.cell? q1 = some b1 ∧ w.cell? q2 = some b2) :
    w'.cell? p0 = some a0 ∧ w'.cell? p1 = some a1 ∧ w'.cell? p2 = some a2 ∧ w'.cell? q0 = some b0 ∧ w'.cell? q1 = some b1 ∧ w'.cell? q2 = some b2 :=
  ⟨cell_hold hb h.1, cell_hold hb h.2.1, cell_hold hb h.2.2.1, cell_hold hb h.2.2.2.1, cell_hold hb h.2.2.2.2.1, cell_hold hb h.2.2.2.2.2⟩
set_option maxHeartbeats 8000000 in
theorem rall_any (w : World) (u v : Value) (l m : List Fa) (hu : Facts w u l) (hv : Facts w v m) (hl : ∀ f ∈ l, FaWf f) (hm : ∀ f ∈ m, FaWf f) :
    Calls Try.prog 18 #[u, v] w fun e w' => e = .returned (.bool (sameFs l m)) ∧ Below w.heap.size w w' := by
  obtain ⟨a, cap, rfl, h1, hmx, h3⟩ := hu
  obtain ⟨a', cap', rfl, h1', -, h3'⟩ := hv
  have HC := Lib.hid h3
  have HC' := Lib.hid h3'
  clear h3 h3'
  by_cases hn : l.length = m.length
  · have HG := Lib.hid (fun h => fs_good hn h)
    have HB := Lib.hid (fun k h1 h2 h => fs_bad (l := l) (m := m) (k := k) h1 h2 h)
    have HS := Lib.hid (fun w1 k (hk : k < l.length) (hk2 : k < m.length) C I N C' I' N' (h : Fact3 w C I N l[k]) (h' : Fact3 w C' I' N' m[k]) (hb : Below w.heap.size w w1) => rfsame_any w1 C I N C' I' N' l[k] m[k] (h.below hb) (h'.below hb) (hl _ (List.getElem_mem hk)) (hm _ (List.getElem_mem hk2)))
    have HQ := Lib.hid hn
    rw [← hn]
    clear h1 h1' hl hm hn
    generalize sameFs l m = R at *
    go_enter Try.func18, Try.ntmps18
    go_wp2_with fail
    go_loopw [5] (fun i wr => ∃ k : Nat, k ≤ l.length ∧ i = .int .i64 k ∧ Hid (Below w.heap.size w wr) ∧ Hid (∀ j, j < k → (hj : j < l.length) → (hj2 : j < m.length) → sameFa l[j] m[j] = true)) (fun i _ => l.length - (intOf i).toNat)
    case atStart => exact ⟨0, Nat.zero_le _, rfl, Lib.hid (Below.refl _ _), Lib.hid (fun j hj => by omega)⟩
    case round =>
      obtain ⟨k, hk, rfl, HD, HJ⟩ := hrel
      by_cases hlk : k < l.length
      · have hlk' : (k : Int) < (l.length : Int) := by omega
        have HK2 := Lib.hid (show k < m.length by rw [← HQ.out]; exact hlk)
        rcases HC.out with h3 | ⟨b, off, rfl, hlt, hc⟩
        · rw [h3] at hlk; simp at hlk
        rcases HC'.out with h3 | ⟨b', off', rfl, hlt', hc'⟩
        · have hn := HK2.out; rw [h3] at hn; simp at hn
        obtain ⟨C, I, N, hx, hf⟩ := hc k hlk
        obtain ⟨C', I', N', hy, hf'⟩ := hc' k HK2.out
        have hx := tri_hold HD.out hx
        have hy := tri_hold HD.out hy
        have HSk := Lib.hid (fun w1 hb => HS.out w1 k hlk HK2.out _ _ _ _ _ _ hf hf' hb)
        clear hc hc'
        obtain ⟨⟨pa, pc, rfl⟩, ⟨pa2, pc2, rfl⟩, pa3, pc3, rfl⟩ := hf.slices
        obtain ⟨⟨qa, qc, rfl⟩, ⟨qa2, qc2, rfl⟩, qa3, qc3, rfl⟩ := hf'.slices
        clear hf hf'
        have HNx := Lib.hid (fun h => HB.out k hlk HK2.out h)
        have HJx := Lib.hid (fun (h : sameFa l[k] m[k] = true) => till (P := fun j => (hj : j < l.length) → (hj2 : j < m.length) → sameFa l[j] m[j] = true) HJ.out (fun _ _ => h))
        have hk6 := And.intro hx.1 (And.intro hx.2.1 (And.intro hx.2.2 (And.intro hy.1 (And.intro hy.2.1 hy.2.2))))
        clear hx hy HC HC' HJ
        generalize l[k].cs.length = s1 at *
        generalize l[k].is.length = s2 at *
        generalize l[k].ns.length = s3 at *
        generalize m[k].cs.length = t1 at *
        generalize m[k].is.length = t2 at *
        generalize m[k].ns.length = t3 at *
        generalize sameFa l[k] m[k] = B at *
        go_upto_region 6 with fail
        have hk := six_hold (Below.refl wr.heap.size wr).drew hk6
        have hBw : Below w.heap.size w wr.drew := HD.out.drew
        clear hk6
        go_region_held3 (fun w' => w'.cell? ⟨b, off + k * 3, none⟩ = some (.slice pa s1 pc) ∧ w'.cell? ⟨b, off + k * 3 + 1, none⟩ = some (.slice pa2 s2 pc2) ∧ w'.cell? ⟨b, off + k * 3 + 2, none⟩ = some (.slice pa3 s3 pc3) ∧ w'.cell? ⟨b', off' + k * 3, none⟩ = some (.slice qa t1 qc) ∧ w'.cell? ⟨b', off' + k * 3 + 1, none⟩ = some (.slice qa2 t2 qc2) ∧ w'.cell? ⟨b', off' + k * 3 + 2, none⟩ = some (.slice qa3 t3 qc3)) (with_reducible exact hk)
          ((go_at_call 14; refine (HSk.out _ hBw).mono ?_; rintro r w4 ⟨rfl, hb2⟩; have hk := six_hold hb2 hk; have hBw := below_then hBw hb2; clear hb2))
        have HBw := Lib.hid hBw
        clear hBw hk
        cases B with
        | false =>
          have hR := HNx.out rfl
          subst hR
          go_wp2_with fail
          go_ret
          exact ⟨rfl, HBw.out⟩
        | true =>
          have HJ2 := Lib.hid (HJx.out rfl)
          go_wp2_with fail
          go_roundw
          case rel => exact ⟨k + 1, by omega, by go_num, HBw, HJ2⟩
          case measure => simp [intOf]; omega
      · have hke : k = l.length := by omega
        subst hke
        have hR := HG.out (fun j h1 h2 => HJ.out j h1 h1 h2)
        subst hR
        go_wp2_with fail
        go_ret
        exact ⟨rfl, HD.out⟩
  · rw [fs_len hn]
    have hn2 : ((l.length : Int) != (m.length : Int)) = true := by simp; omega
    go_enter Try.func18, Try.ntmps18
    go_wp2_with fail
    go_ret
    exact ⟨rfl, Below.refl _ _⟩
/-- One of the two. -/
def EitherB (e : Ending) : Prop := ∃ b : Bool, e = .returned (.bool b)
set_option maxHeartbeats 4000000 in
theorem flight_any (w : World) (v : Value) (l : List Fa) (h : Facts w v l) :
    Calls Try.prog 6 #[v] w fun e w' => EitherB e ∧ w = w' := by
  obtain ⟨a, cap, rfl, h1, hmx, h3⟩ := h
  have HC := Lib.hid h3
  clear h3
  go_enter Try.func6, Try.ntmps6
  go_wp2_with fail
  go_loopw [3] (fun i wr => ∃ k : Nat, k ≤ l.length ∧ i = .int .i64 k ∧ Hid (w = wr)) (fun i _ => l.length - (intOf i).toNat)
  case atStart => exact ⟨0, Nat.zero_le _, rfl, Lib.hid rfl⟩
  case round =>
    obtain ⟨k, hk, rfl, HD⟩ := hrel
    obtain rfl := HD.out
    by_cases hlk : k < l.length
    · have hlk' : (k : Int) < (l.length : Int) := by omega
      rcases HC.out with h3 | ⟨b, off, rfl, hlt, hc⟩
      · rw [h3] at hlk; simp at hlk
      obtain ⟨C, I, N, hx, hf⟩ := hc k hlk
      obtain ⟨⟨pa, pc, rfl⟩, ⟨pa2, pc2, rfl⟩, pa3, pc3, rfl⟩ := hf.slices
      obtain ⟨x0, x1, x2⟩ := hx
      clear hc hf
      generalize l[k].cs.length = s1 at *
      generalize l[k].is.length = s2 at *
      generalize l[k].ns.length = s3 at *
      by_cases c1 : (20 : Int) < s1
      · have e1 : decide ((20 : Int) < s1) = true := decide_eq_true c1
        go_wp2_with fail
        go_ret
        exact ⟨⟨_, rfl⟩, rfl⟩
      · have e1 : decide ((20 : Int) < s1) = false := decide_eq_false c1
        by_cases c2 : (20 : Int) < s2
        · have e2 : decide ((20 : Int) < s2) = true := decide_eq_true c2
          go_wp2_with fail
          go_ret
          exact ⟨⟨_, rfl⟩, rfl⟩
        · have e2 : decide ((20 : Int) < s2) = false := decide_eq_false c2
          by_cases c3 : (20 : Int) < s3
          · have e3 : decide ((20 : Int) < s3) = true := decide_eq_true c3
            go_wp2_with fail
            go_ret
            exact ⟨⟨_, rfl⟩, rfl⟩
          · have e3 : decide ((20 : Int) < s3) = false := decide_eq_false c3
            go_wp2_with fail
            go_roundw
            case rel => exact ⟨k + 1, by omega, by go_num, Lib.hid True.intro⟩
            case measure => simp [intOf]; omega
    · have hke : k = l.length := by omega
      subst hke
      go_wp2_with fail
      go_ret
      exact ⟨⟨_, rfl⟩, rfl⟩
end Go.Proofs.Ytdnbjaeeebodkaa
