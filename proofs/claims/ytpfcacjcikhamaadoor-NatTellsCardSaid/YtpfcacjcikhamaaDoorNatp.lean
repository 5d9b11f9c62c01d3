/- What divideByWord of package nat returns, and what becomes of its list. -/
import Derived.Test.YtpfcacjcikhamaaDoorNatm
import Derived.Test.YtpfcacjcikhamaaDoorNato
namespace Go.Proofs.YtpfcacjcikhamaaDoor
set_option maxRecDepth 100000
open Go.RowKit
set_option linter.unusedVariables false
/-- Nothing but block g has changed. -/
def Only (g : Nat) (w w' : World) : Prop := w'.os = w.os ∧ w'.tape = w.tape ∧ w'.output = w.output ∧ w'.heap.size = w.heap.size ∧ ∀ k, k ≠ g → w'.heap[k]? = w.heap[k]?
theorem Only.refl (g : Nat) (w : World) : Only g w w := ⟨rfl, rfl, rfl, rfl, fun _ _ => rfl⟩
theorem Only.below {g B : Nat} {w w' : World} (h : Only g w w') (hB : B ≤ g) : Below B w w' := ⟨h.1, h.2.1, h.2.2.1, by rw [h.2.2.2.1]; exact Nat.le_refl _, fun k hk => h.2.2.2.2 k (by omega)⟩
theorem Only.drewN {g : Nat} {w w' : World} (h : Only g w w') (n : Nat) : Only g w (w'.drewN n) := by
  have hb := below_drewN (Below.refl w'.heap.size w') n
  refine ⟨hb.os.trans h.1, hb.tape.trans h.2.1, hb.output.trans h.2.2.1, ?_, fun k hk => ?_⟩
  · show (w'.drewN n).heap.size = _
    rw [show (w'.drewN n).heap = w'.heap from World.heap_drewN _ _]; exact h.2.2.2.1
  · rw [show (w'.drewN n).heap = w'.heap from World.heap_drewN _ _]; exact h.2.2.2.2 k hk
theorem Only.set {g : Nat} {w w' : World} (h : Only g w w') (j : Nat) (x : Value) : Only g w (w'.setCell ⟨g, j, none⟩ x) := by
  have hb := (Below.refl 0 w').setCell (p := ⟨g, j, none⟩) (Nat.zero_le _) x
  refine ⟨hb.os.trans h.1, hb.tape.trans h.2.1, hb.output.trans h.2.2.1, ?_, fun k hk => ?_⟩
  · rw [← h.2.2.2.1]; simp [World.setCell]
  · rw [Below.heap_setCell _ _ _ _ (by simpa using hk)]; exact h.2.2.2.2 k hk
theorem Only.row {g B E : Nat} {w w' : World} {v : Value} {n : Nat} {xs : List Value} (h : Only g w w') (hr : w.ownsRow B E 1 v n xs) (hne : v.ownBlock ≠ some g) : w'.ownsRow B E 1 v n xs := by
  obtain ⟨h1, h2⟩ := hr
  refine ⟨h1, ?_⟩
  rcases h2 with h2 | ⟨g', cap, cur, rfl, q1, q2, q3⟩
  · exact .inl h2
  · refine .inr ⟨g', cap, cur, rfl, q1, ?_, q3⟩
    rw [h.2.2.2.2 g' (by intro e; subst e; exact hne rfl)]; exact q2
def WDivRel (a : List Int) (d : Int) (m : Nat) (out : List Int) (r : Int) : Prop :=
  ∃ X Y, wv a = wvN a m + 4294967296 ^ m * X ∧ wv out = wvN a m + 4294967296 ^ m * Y ∧ X = d * Y + r ∧ 0 ≤ r ∧ r < d ∧ Wd out ∧ out.length = a.length ∧ ∀ j, j < m → out.getD j 0 = a.getD j 0
theorem WDivRel.start {a : List Int} {d : Int} (ha : Wd a) (hd : 0 < d) : WDivRel a d a.length a 0 :=
  ⟨0, 0, by simp [wv], by simp [wv], by simp, by omega, hd, ha, rfl, fun _ _ => rfl⟩
theorem WDivRel.step {a out : List Int} {d r : Int} {m : Nat} (h : WDivRel a d (m + 1) out r) (hm : m < a.length) (hd : d ≤ 4294967295) (y : Int) (hy : out.getD m 0 = y) :
    WDivRel a d m (out.set m ((r * 4294967296 + y) / d)) ((r * 4294967296 + y) % d) := by
  obtain ⟨X, Y, e1, e2, e3, e4, e5, e6, e7, e8⟩ := h
  have hya := e8 m (by omega)
  have hyr := e6.getD m
  rw [hy] at hya hyr
  obtain ⟨q0, q1, r0, r1⟩ := div_word_bounds e4 e5 hyr.1 hyr.2 hd
  have hde := Int.emod_add_mul_ediv (r * 4294967296 + y) d
  generalize (r * 4294967296 + y) / d = q at *
  generalize (r * 4294967296 + y) % d = s at *
  refine ⟨y + 4294967296 * X, q + 4294967296 * Y, ?_, ?_, ?_, r0, r1, e6.set q0 q1, by simpa using e7, fun j hj => ?_⟩
  · rw [e1, wvN, ← hya, q_succ, Int.mul_add, Int.mul_comm y, Int.mul_assoc]; omega
  · rw [wv_set (by omega), e2, wvN, ← hya, hy, q_succ, Int.mul_add, Int.sub_mul, Int.mul_comm y, Int.mul_comm q, Int.mul_assoc]; omega
  · rw [e3]
    have k1 : 4294967296 * (d * Y + r) = d * (4294967296 * Y) + r * 4294967296 := by
      rw [Int.mul_add, ← Int.mul_assoc, Int.mul_comm 4294967296 d, Int.mul_assoc, Int.mul_comm 4294967296 r]
    have k2 : d * (q + 4294967296 * Y) = d * q + d * (4294967296 * Y) := Int.mul_add _ _ _
    omega
  · rw [getD_set_other (by omega)]; exact e8 j (by omega)
theorem WDivRel.stop {a out : List Int} {d r : Int} (h : WDivRel a d 0 out r) : wv out = wv a / d ∧ r = wv a % d ∧ Wd out ∧ out.length = a.length := by
  obtain ⟨X, Y, e1, e2, e3, e4, e5, e6, e7, e8⟩ := h
  simp [wvN] at e1 e2
  have := (Int.ediv_emod_unique (a := wv a) (b := d) (r := r) (q := wv out) (by omega)).2 ⟨by rw [e1, e2, e3]; omega, e4, e5⟩
  exact ⟨this.1.symm, this.2.symm, e6, e7⟩
def DbwPost (B g cap : Nat) (a : List Int) (d : Int) (w : World) (e : Ending) (w' : World) : Prop :=
  ∃ out, e = .returned (.int .u32 (wv a % d)) ∧ WRow w' B g cap out ∧ Wd out ∧ out.length = a.length ∧ wv out = wv a / d ∧ Only g w w'
theorem dbw_nil (d : Int) (w : World) : Calls Tryd.prog 60 #[.slice none 0 0, .int .u32 d] w fun e w' => e = .returned (.int .u32 0) ∧ w = w' := by
  go_enter Tryd.func60, Tryd.ntmps60
  go_wp2_with fail
  go_loop [5, 10] (fun r i => r = .int .u32 0 ∧ i = .int .i64 0) (fun _ _ => 0)
  case atStart => exact ⟨rfl, rfl⟩
  case round =>
    obtain ⟨rfl, rfl⟩ := hrel
    go_wp2_with fail
    go_ret
    exact ⟨rfl, rfl⟩
set_option maxHeartbeats 1000000 in
theorem dbw_any (B g cap : Nat) (a : List Int) (d : Int) (w : World) (hr : WRow w B g cap a) (ha : Wd a) (la : a.length ≤ 1099511627776) (d0 : 0 < d) (d1 : d ≤ 4294967295) :
    Calls Tryd.prog 60 #[.slice (some ⟨g, 0, none⟩) a.length cap, .int .u32 d] w (DbwPost B g cap a d w) := by
  have hg := hr.facts.1
  have HR := Lib.hid hr
  have hcap := hr.facts.2.2.1
  have HA := Lib.hid ha
  have hR0 := Lib.hid (WDivRel.start ha d0)
  obtain ⟨L, hL⟩ : ∃ L, a.length = L := ⟨_, rfl⟩
  rw [hL] at la hcap hR0 ⊢
  have HL := Lib.hid hL
  clear hr ha hL
  go_enter Tryd.func60, Tryd.ntmps60
  go_wp2_with fail
  go_loopw [5, 10] (fun r i wr => ∃ (k m : Nat) (out : List Int) (rr : Int), Hid (L = k + m) ∧ k ≤ L ∧ i = .int .i64 k ∧ r = .int .u32 rr ∧ Hid (WDivRel a d m out rr) ∧ Hid (WRow wr B g cap out ∧ Only g w wr)) (fun _ i _ => L - (intOf i).toNat)
  case atStart => exact ⟨0, L, a, 0, Lib.hid (by omega), by omega, rfl, rfl, hR0, Lib.hid ⟨HR.out, Only.refl _ _⟩⟩
  case round =>
    obtain ⟨k, m, out, rr, hm, hk, rfl, rfl, hO, hS⟩ := hrel
    clear hR0
    have hlen : Hid (out.length = L) := Lib.hid (by obtain ⟨_, _, _, _, _, _, _, _, e, _⟩ := hO.out; rw [e]; exact HL.out)
    by_cases hlt : k < L
    · obtain ⟨n, rfl⟩ : ∃ n, m = n + 1 := ⟨m - 1, by have := hm.out; omega⟩
      obtain ⟨ho1, ho2⟩ := hS.out.1.facts.2.2.2.2 n (by have := hlen.out; have := hm.out; omega)
      have hi0 : (0 : Int) ≤ L - 1 - k := by omega
      have hi1 : (L : Int) - 1 - k < L := by omega
      have hiN : ((L : Int) - 1 - k).toNat = n := by have := hm.out; omega
      have hbd : 0 ≤ rr ∧ rr < d ∧ 0 ≤ out.getD n 0 ∧ out.getD n 0 ≤ 4294967295 := by
        obtain ⟨_, _, _, _, _, q1, q2, q3, _⟩ := hO.out
        exact ⟨q1, q2, (q3.getD n).1, (q3.getD n).2⟩
      have hst := Lib.hid (fun (y : Int) (hy : out.getD n 0 = y) => hO.out.step (by have := HL.out; have := hm.out; omega) d1 y hy)
      generalize out.getD n 0 = y at *
      have hst2 := Lib.hid (hst.out y rfl)
      have hSS := Lib.hid (fun (t : Nat) (z : Int) => And.intro ((hS.out.1.drewN t).set n z) ((hS.out.2.drewN t).set n (.int .u32 z)))
      obtain ⟨r0, r1, y0, y1⟩ := hbd
      have hqb := div_word_bounds r0 r1 y0 y1 d1
      have hDv := Lib.hid (fun w1 => div32_any rr y d r0 r1 y0 y1 d1 w1)
      clear hst hO hS
      generalize (rr * 4294967296 + y) / d = qq at *
      generalize (rr * 4294967296 + y) % d = ss at *
      obtain ⟨qb1, qb2, qb3, qb4⟩ := hqb
      go_wp2_with (go_at_call 86; refine (hDv.out _).mono ?_; rintro e w' ⟨rfl, t, rfl⟩)
      go_roundw
      case rel => exact ⟨k + 1, n, _, _, Lib.hid (by have := hm.out; omega), by omega, by go_num, rfl, hst2, Lib.hid (hSS.out _ _)⟩
      case measure => simp [intOf]; omega
    · obtain rfl : m = 0 := by have := hm.out; omega
      have hE := Lib.hid hO.out.stop
      clear hO
      go_wp2_with fail
      go_ret
      exact ⟨out, ret_int hE.out.2.1, hS.out.1, hE.out.2.2.1, hE.out.2.2.2, hE.out.1, hS.out.2⟩
end Go.Proofs.YtpfcacjcikhamaaDoor
