/- What Root of package nat returns, where Div answers as it should. -/
import Derived.Test.YtboinjkeaffboaaDoorNato
import Derived.Deep.LoopGhost
namespace Go.Proofs.YtboinjkeaffboaaDoor
set_option maxRecDepth 100000
open Go.RowKit
set_option linter.unusedVariables false
/-- Nothing but block g has changed. -/
def Only (g : Nat) (w w' : World) : Prop := w'.os = w.os ∧ w'.tape = w.tape ∧ w'.output = w.output ∧ w'.heap.size = w.heap.size ∧ ∀ k, k ≠ g → w'.heap[k]? = w.heap[k]?
theorem Only.refl (g : Nat) (w : World) : Only g w w := ⟨rfl, rfl, rfl, rfl, fun _ _ => rfl⟩
theorem Only.below {g B : Nat} {w w' : World} (h : Only g w w') (hB : B ≤ g) : Below B w w' := ⟨h.1, h.2.1, h.2.2.1, by rw [h.2.2.2.1]; exact Nat.le_refl _, fun k hk => h.2.2.2.2 k (by omega)⟩
theorem Only.drewN {g : Nat} {w w' : World} (h : Only g w w') (n : Nat) : Only g w (w'.drewN n) := by
  have hb := below_drewN (Below.refl w'.heap.size w') n
  refine ⟨hb.os.trans h.1, hb.tape.trans h.2.1, hb.output.trans h.2.2.1, ?_, fun k hk => ?_⟩
  · show (w'.drewN n).heap.size = _
    rw [show (w'.drewN n).heap = w'.heap from World.heap_drewN _ _]; exact h.2.2.2.1
  · rw [show (w'.drewN n).heap = w'.heap from World.heap_drewN _ _]; exact h.2.2.2.2 k hk
theorem Only.set {g : Nat} {w w' : World} (h : Only g w w') (j : Nat) (x : Value) : Only g w (w'.setCell ⟨g, j, none⟩ x) := by
  have hb := (Below.refl 0 w').setCell (p := ⟨g, j, none⟩) (Nat.zero_le _) x
  refine ⟨hb.os.trans h.1, hb.tape.trans h.2.1, hb.output.trans h.2.2.1, ?_, fun k hk => ?_⟩
  · rw [← h.2.2.2.1]; simp [World.setCell]
  · rw [Below.heap_setCell _ _ _ _ (by simpa using hk)]; exact h.2.2.2.2 k hk
theorem Only.row {g B E : Nat} {w w' : World} {v : Value} {n : Nat} {xs : List Value} (h : Only g w w') (hr : w.ownsRow B E 1 v n xs) (hne : v.ownBlock ≠ some g) : w'.ownsRow B E 1 v n xs := by
  obtain ⟨h1, h2⟩ := hr
  refine ⟨h1, ?_⟩
  rcases h2 with h2 | ⟨g', cap, cur, rfl, q1, q2, q3⟩
  · exact .inl h2
  · refine .inr ⟨g', cap, cur, rfl, q1, ?_, q3⟩
    rw [h.2.2.2.2 g' (by intro e; subst e; exact hne rfl)]; exact q2
def WDivRel (a : List Int) (d : Int) (m : Nat) (out : List Int) (r : Int) : Prop :=
  ∃ X Y, wv a = wvN a m + 4294967296 ^ m * X ∧ wv out = wvN a m + 4294967296 ^ m * Y ∧ X = d * Y + r ∧ 0 ≤ r ∧ r < d ∧ Wd out ∧ out.length = a.length ∧ ∀ j, j < m → out.getD j 0 = a.getD j 0
theorem WDivRel.start {a : List Int} {d : Int} (ha : Wd a) (hd : 0 < d) : WDivRel a d a.length a 0 :=
  ⟨0, 0, by simp [wv], by simp [wv], by simp, by omega, hd, ha, rfl, fun _ _ => rfl⟩
theorem WDivRel.step {a out : List Int} {d r : Int} {m : Nat} (h : WDivRel a d (m + 1) out r) (hm : m < a.length) (hd : d ≤ 4294967295) (y : Int) (hy : out.getD m 0 = y) :
    WDivRel a d m (out.set m ((r * 4294967296 + y) / d)) ((r * 4294967296 + y) % d) := by
  obtain ⟨X, Y, e1, e2, e3, e4, e5, e6, e7, e8⟩ := h
  have hya := e8 m (by omega)
  have hyr := e6.getD m
  rw [hy] at hya hyr
  obtain ⟨q0, q1, r0, r1⟩ := div_word_bounds e4 e5 hyr.1 hyr.2 hd
  have hde := Int.emod_add_mul_ediv (r * 4294967296 + y) d
  generalize (r * 4294967296 + y) / d = q at *
  generalize (r * 4294967296 + y) % d = s at *
  refine ⟨y + 4294967296 * X, q + 4294967296 * Y, ?_, ?_, ?_, r0, r1, e6.set q0 q1, by simpa using e7, fun j hj => ?_⟩
  · rw [e1, wvN, ← hya, q_succ, Int.mul_add, Int.mul_comm y, Int.mul_assoc]; omega
  · rw [wv_set (by omega), e2, wvN, ← hya, hy, q_succ, Int.mul_add, Int.sub_mul, Int.mul_comm y, Int.mul_comm q, Int.mul_assoc]; omega
  · rw [e3]
    have k1 : 4294967296 * (d * Y + r) = d * (4294967296 * Y) + r * 4294967296 := by
      rw [Int.mul_add, ← Int.mul_assoc, Int.mul_comm 4294967296 d, Int.mul_assoc, Int.mul_comm 4294967296 r]
    have k2 : d * (q + 4294967296 * Y) = d * q + d * (4294967296 * Y) := Int.mul_add _ _ _
    omega
  · rw [getD_set_other (by omega)]; exact e8 j (by omega)
theorem WDivRel.stop {a out : List Int} {d r : Int} (h : WDivRel a d 0 out r) : wv out = wv a / d ∧ r = wv a % d ∧ Wd out ∧ out.length = a.length := by
  obtain ⟨X, Y, e1, e2, e3, e4, e5, e6, e7, e8⟩ := h
  simp [wvN] at e1 e2
  have := (Int.ediv_emod_unique (a := wv a) (b := d) (r := r) (q := wv out) (by omega)).2 ⟨by rw [e1, e2, e3]; omega, e4, e5⟩
  exact ⟨this.1.symm, this.2.symm, e6, e7⟩
def DbwPost (B g cap : Nat) (a : List Int) (d : Int) (w : World) (e : Ending) (w' : World) : Prop :=
  ∃ out, e = .returned (.int .u32 (wv a % d)) ∧ WRow w' B g cap out ∧ Wd out ∧ out.length = a.length ∧ wv out = wv a / d ∧ Only g w w'
theorem dbw_nil (d : Int) (w : World) : Calls Tryd.prog 103 #[.slice none 0 0, .int .u32 d] w fun e w' => e = .returned (.int .u32 0) ∧ w = w' := by
  go_enter Tryd.func103, Tryd.ntmps103
  go_wp2_with fail
  go_loop [5, 10] (fun r i => r = .int .u32 0 ∧ i = .int .i64 0) (fun _ _ => 0)
  case atStart => exact ⟨rfl, rfl⟩
  case round =>
    obtain ⟨rfl, rfl⟩ := hrel
    go_wp2_with fail
    go_ret
    exact ⟨rfl, rfl⟩
set_option maxHeartbeats 1000000 in
theorem dbw_any (B g cap : Nat) (a : List Int) (d : Int) (w : World) (hr : WRow w B g cap a) (ha : Wd a) (la : a.length ≤ 1099511627776) (d0 : 0 < d) (d1 : d ≤ 4294967295) :
    Calls Tryd.prog 103 #[.slice (some ⟨g, 0, none⟩) a.length cap, .int .u32 d] w (DbwPost B g cap a d w) := by
  have hg := hr.facts.1
  have HR := Lib.hid hr
  have hcap := hr.facts.2.2.1
  have HA := Lib.hid ha
  have hR0 := Lib.hid (WDivRel.start ha d0)
  obtain ⟨L, hL⟩ : ∃ L, a.length = L := ⟨_, rfl⟩
  rw [hL] at la hcap hR0 ⊢
  have HL := Lib.hid hL
  clear hr ha hL
  go_enter Tryd.func103, Tryd.ntmps103
  go_wp2_with fail
  go_loopw [5, 10] (fun r i wr => ∃ (k m : Nat) (out : List Int) (rr : Int), Hid (L = k + m) ∧ k ≤ L ∧ i = .int .i64 k ∧ r = .int .u32 rr ∧ Hid (WDivRel a d m out rr) ∧ Hid (WRow wr B g cap out ∧ Only g w wr)) (fun _ i _ => L - (intOf i).toNat)
  case atStart => exact ⟨0, L, a, 0, Lib.hid (by omega), by omega, rfl, rfl, hR0, Lib.hid ⟨HR.out, Only.refl _ _⟩⟩
  case round =>
    obtain ⟨k, m, out, rr, hm, hk, rfl, rfl, hO, hS⟩ := hrel
    clear hR0
    have hlen : Hid (out.length = L) := Lib.hid (by obtain ⟨_, _, _, _, _, _, _, _, e, _⟩ := hO.out; rw [e]; exact HL.out)
    by_cases hlt : k < L
    · obtain ⟨n, rfl⟩ : ∃ n, m = n + 1 := ⟨m - 1, by have := hm.out; omega⟩
      obtain ⟨ho1, ho2⟩ := hS.out.1.facts.2.2.2.2 n (by have := hlen.out; have := hm.out; omega)
      have hi0 : (0 : Int) ≤ L - 1 - k := by omega
      have hi1 : (L : Int) - 1 - k < L := by omega
      have hiN : ((L : Int) - 1 - k).toNat = n := by have := hm.out; omega
      have hbd : 0 ≤ rr ∧ rr < d ∧ 0 ≤ out.getD n 0 ∧ out.getD n 0 ≤ 4294967295 := by
        obtain ⟨_, _, _, _, _, q1, q2, q3, _⟩ := hO.out
        exact ⟨q1, q2, (q3.getD n).1, (q3.getD n).2⟩
      have hst := Lib.hid (fun (y : Int) (hy : out.getD n 0 = y) => hO.out.step (by have := HL.out; have := hm.out; omega) d1 y hy)
      generalize out.getD n 0 = y at *
      have hst2 := Lib.hid (hst.out y rfl)
      have hSS := Lib.hid (fun (t : Nat) (z : Int) => And.intro ((hS.out.1.drewN t).set n z) ((hS.out.2.drewN t).set n (.int .u32 z)))
      obtain ⟨r0, r1, y0, y1⟩ := hbd
      have hqb := div_word_bounds r0 r1 y0 y1 d1
      have hDv := Lib.hid (fun w1 => div32_any rr y d r0 r1 y0 y1 d1 w1)
      clear hst hO hS
      generalize (rr * 4294967296 + y) / d = qq at *
      generalize (rr * 4294967296 + y) % d = ss at *
      obtain ⟨qb1, qb2, qb3, qb4⟩ := hqb
      go_wp2_with (go_at_call 111; refine (hDv.out _).mono ?_; rintro e w' ⟨rfl, t, rfl⟩)
      go_roundw
      case rel => exact ⟨k + 1, n, _, _, Lib.hid (by have := hm.out; omega), by omega, by go_num, rfl, hst2, Lib.hid (hSS.out _ _)⟩
      case measure => simp [intOf]; omega
    · obtain rfl : m = 0 := by have := hm.out; omega
      have hE := Lib.hid hO.out.stop
      clear hO
      go_wp2_with fail
      go_ret
      exact ⟨out, ret_int hE.out.2.1, hS.out.1, hE.out.2.2.1, hE.out.2.2.2, hE.out.1, hS.out.2⟩
set_option maxRecDepth 100000
open Go.RowKit
set_option linter.unusedVariables false
def NatDivPost (w : World) (x y : Int) (e : Ending) (w' : World) : Prop := ∃ v1 v2, e = .returned (.tuple #[v1, v2, .bool true]) ∧ IsNat w' v1 x ∧ IsNat w' v2 y ∧ Below w.heap.size w w'
def NatDivNone (w : World) (e : Ending) (w' : World) : Prop := e = .returned (.tuple #[.slice none 0 0, .slice none 0 0, .bool false]) ∧ Below w.heap.size w w'
theorem IsNat.own {w : World} {B : Nat} {v : Value} {a : List Int} (h : w.ownsRow B 83 1 v a.length (a.map (Value.int .u32))) (hd : Wd a) (ht : Tidy a) (hl : a.length ≤ 1099511627776) : IsNat w v (wv a) := ⟨a, own_wlist h hd hl, ht, rfl⟩
theorem Fresh.isNat {w w' : World} {z : Int} {m : Nat} {v : Value} (h : Fresh w z m (.returned v) w') (hm : m ≤ 1099511627776) : IsNat w' v z ∧ Below w.heap.size w w' := by
  obtain ⟨v', a, e, h1, h2, h3, h4, h5, h6⟩ := h
  simp only [Ending.returned.injEq] at e
  subst e
  exact ⟨⟨a, own_wlist h1 h2 (by omega), h3, h4⟩, h6⟩
theorem isNat_zero {w : World} : IsNat w (.slice none 0 0) 0 := ⟨[], WList.nil, .inl rfl, rfl⟩
set_option maxHeartbeats 1000000 in
theorem div_zero (u v : Value) (b : List Int) (w : World) (hv : WList w v b) (hz : wv b = 0) :
    Calls Tryd.prog 91 #[u, v] w (NatDivNone w) := by
  obtain ⟨q, d, rfl⟩ := hv.shape
  have HV := Lib.hid hv
  have HT := Lib.hid (sig_any q b.length d b w hv.1 hv.2.2)
  clear hv
  go_enter Tryd.func91, Tryd.ntmps91
  go_wp2_with fail
  refine (HT.out).mono ?_; rintro e w' ⟨v1, m, rfl, hd, rfl⟩
  obtain ⟨hy, ey, ty⟩ := hd.wlist HV.out
  have h0 : b.take m = [] := (ty.wzero hy.2.1).1 (by rw [ey, hz])
  have hl : (b.take m).length = 0 := by rw [h0]; rfl
  obtain ⟨q1, d1, rfl⟩ := hy.shape
  rw [hl]
  clear hd hy ey ty h0 hl HV HT hz
  go_wp2_with fail
  go_ret3
  exact ⟨rfl, Below.refl _ _⟩
set_option maxHeartbeats 1000000 in
theorem div_less (u v : Value) (a b : List Int) (w : World) (hu : WList w u a) (hv : WList w v b) (hz : wv a < wv b) :
    Calls Tryd.prog 91 #[u, v] w (NatDivPost w 0 (wv a)) := by
  obtain ⟨q, d, rfl⟩ := hv.shape
  have HV := Lib.hid hv
  have HU := Lib.hid hu
  have HT := Lib.hid (sig_any q b.length d b w hv.1 hv.2.2)
  have ha0 := (wv_range hu.2.1).1
  have hcm : cmpI (wv a) (wv b) < 0 := by rw [cmpI_lt hz]; decide
  have HTr := Lib.hid (fun w1 (h : WList w1 u a) => trim_any u a w1 h _ rfl)
  clear hv hu
  go_enter Tryd.func91, Tryd.ntmps91
  go_wp2_with fail
  refine (HT.out).mono ?_; rintro e w' ⟨v1, m, rfl, hd, rfl⟩
  obtain ⟨hy, ey, ty⟩ := hd.wlist HV.out
  have hl : (b.take m).length ≠ 0 := by
    intro h
    rw [List.length_eq_zero_iff.1 h, wv_nil] at ey
    omega
  have HC := Lib.hid (cmp_any u v1 a _ w HU.out hy)
  rw [ey] at HC
  generalize cmpI (wv a) (wv b) = cm at *
  obtain ⟨q1, d1, rfl⟩ := hy.shape
  generalize (b.take m).length = L at *
  have lL : 0 < L := by omega
  have lM : L ≤ 1099511627776 := by
    have h1 := hy.2.2
    obtain ⟨_, _, e, _⟩ := hy.1
    simp only [Value.slice.injEq] at e
    omega
  clear hd hy ey ty hl HV HT hz ha0
  go_wp2_with fail
  refine (HC.out).mono ?_; rintro e w' ⟨rfl, nd, rfl⟩
  have hb0 := below_drewN (Below.refl w.heap.size w) nd
  generalize w.drewN nd = W at *
  have hb0 := Lib.hid hb0
  go_wp2_with fail
  refine (HTr.out _ (HU.out.below hb0.out)).mono ?_; rintro e w1 ⟨u1, x, rfl, hF⟩
  go_wp2_with fail
  go_ret3
  have hN := Fresh.isNat ⟨u1, x, rfl, hF⟩ HU.out.2.2
  exact ⟨_, _, rfl, isNat_zero, hN.1, hb0.out.trans (hN.2.mono hb0.out.size)⟩
theorem one_word {y : List Int} (hd : Wd y) (ht : Tidy y) (h0 : 0 < wv y) (h1 : wv y < 4294967296) : y = [wv y] := by
  have hl := ht.wlen hd (n := 1) (by simpa using h1)
  match y, hl with
  | [], _ => rw [wv_nil] at h0; omega
  | [d], _ => simp [wv, wvN]
set_option maxHeartbeats 1000000 in
theorem div_word (u v : Value) (a b : List Int) (w : World) (hu : WList w u a) (hv : WList w v b) (h0 : 0 < wv b) (h1 : wv b < 4294967296) (hz : wv b ≤ wv a) :
    Calls Tryd.prog 91 #[u, v] w (NatDivPost w (wv a / wv b) (wv a % wv b)) := by
  obtain ⟨q, d, rfl⟩ := hv.shape
  have HV := Lib.hid hv
  have HU := Lib.hid hu
  have HT := Lib.hid (sig_any q b.length d b w hv.1 hv.2.2)
  have hcm : ¬ cmpI (wv a) (wv b) < 0 := by have := cmpI_ge.2 hz; omega
  have HTr := Lib.hid (fun w1 (h : WList w1 u a) => trim_any u a w1 h _ rfl)
  clear hv hu
  go_enter Tryd.func91, Tryd.ntmps91
  go_wp2_with fail
  refine (HT.out).mono ?_; rintro e w' ⟨v1, m, rfl, hd, rfl⟩
  obtain ⟨hy, ey, ty⟩ := hd.wlist HV.out
  have ho := one_word hy.2.1 ty (by rw [ey]; exact h0) (by rw [ey]; exact h1)
  rw [ey] at ho
  have HC := Lib.hid (cmp_any u v1 a _ w HU.out hy)
  rw [ey] at HC
  generalize cmpI (wv a) (wv b) = cm at *
  rw [ho] at hy
  obtain ⟨q1, d1, rfl⟩ := hy.shape
  have hcell : ∃ k o, q1 = some ⟨k, o, none⟩ ∧ w.cell? ⟨k, o, none⟩ = some (.int .u32 (wv b)) := by
    obtain ⟨k, o, e, _, hc⟩ := hy.1.cell (i := 0) (by simp)
    exact ⟨k, o, e, by simpa using hc⟩
  obtain ⟨k, o, rfl, hcell⟩ := hcell
  clear hd hy ey ty HV HT ho
  go_wp2_with fail
  refine (HC.out).mono ?_; rintro e w' ⟨rfl, nd, rfl⟩
  have hb0 := below_drewN (Below.refl w.heap.size w) nd
  have hcell := cell_later hb0 hcell
  generalize w.drewN nd = W at *
  have hb0 := Lib.hid hb0
  go_wp2_with fail
  refine (HTr.out _ (HU.out.below hb0.out)).mono ?_; rintro e w1 ⟨u1, x, rfl, hown, hd, ht, hz1, hm, hb1⟩
  have hcell := cell_later hb1 hcell
  have hz1' := Lib.hid hz1
  rcases own_cases hown with ⟨rfl, rfl⟩ | ⟨g, cap, rfl, hr⟩
  · rw [wv_nil] at hz1; omega
  · have hg := hr.facts.1
    have lx : x.length ≤ 1099511627776 := by have := HU.out.2.2; omega
    have HDB := Lib.hid (dbw_any W.heap.size g cap x (wv b) w1 hr hd lx h0 (by omega))
    have hB1 := Lib.hid hb1
    have lx := Lib.hid lx
    have hr0 : 0 ≤ wv x % wv b := Int.emod_nonneg _ (by omega)
    have hr1 : wv x % wv b < wv b := Int.emod_lt_of_pos _ h0
    clear hown hd ht hm hr hz1 hb1 HC HTr HU
    go_wp2_with fail
    refine (HDB.out).mono ?_; rintro e w2 ⟨out, rfl, hr2, hd2, hl2, hv2, honly⟩
    have hb2 := honly.below (B := W.heap.size) hg
    rw [hz1'.out] at hr0 hr1 ⊢
    rw [hz1'.out] at hv2
    have HW := Lib.hid (hr2.wlist hd2 (by have := lx.out; omega))
    have HS := Lib.hid (sig_any _ _ _ _ _ HW.out.1 (by have := lx.out; omega))
    rw [hl2] at HS
    have HR := Lib.hid (And.intro hr2 (And.intro hd2 (And.intro hl2 hv2)))
    have HB2 := Lib.hid (hB1.out.trans (hb2.mono (Nat.le_refl _)))
    have HOf := Lib.hid (fun w3 => of_any' (wv a % wv b) hr0 (by omega) w3)
    clear hr2 hd2 hl2 hv2 honly hb2 HDB hcell HW hB1
    generalize wv a % wv b = rm at *
    go_wp2_with fail
    refine (HS.out).mono ?_; rintro e w' ⟨u2, n, rfl, hc, rfl⟩
    go_wp2_with fail
    refine (HOf.out _).mono ?_; rintro e w3 ⟨u3, z, rfl, hF⟩
    go_wp2_with fail
    go_ret3
    have hN := Fresh.isNat ⟨u3, z, rfl, hF⟩ (by decide)
    have hw := hc.wlist (HR.out.1.wlist HR.out.2.1 (by have := lx.out; have := HR.out.2.2.1; omega))
    have hQ : IsNat w2 u2 (wv a / wv b) := ⟨_, hw.1, hw.2.2, hw.2.1.trans HR.out.2.2.2⟩
    have hb3 := HB2.out.trans (hN.2.mono HB2.out.size)
    exact ⟨_, _, rfl, hQ.below hN.2, hN.1, hb0.out.trans (hb3.mono hb0.out.size)⟩
set_option maxRecDepth 100000
open Go.RowKit
set_option linter.unusedVariables false
def IsRoot (A s : Int) : Prop := 0 ≤ s ∧ s * s ≤ A ∧ A < (s + 1) * (s + 1)
theorem sq_succ (x : Int) : (x + 1) * (x + 1) = x * x + 2 * x + 1 := by rw [Int.add_mul, Int.mul_add]; omega
theorem root_exists (A : Nat) : ∃ s, IsRoot A s := by
  induction A with
  | zero => exact ⟨0, by unfold IsRoot; decide⟩
  | succ n ih =>
    obtain ⟨s, h0, h1, h2⟩ := ih
    by_cases h : (n : Int) + 1 < (s + 1) * (s + 1)
    · exact ⟨s, h0, by omega, by omega⟩
    · refine ⟨s + 1, by omega, by omega, ?_⟩
      rw [sq_succ (s + 1)]; omega
/-- One step of Newton from above stays above, and one that doesn't fall has arrived. -/
theorem newton_above {A s r : Int} (hs : IsRoot A s) (hr : s ≤ r) (h0 : 0 < r) : s ≤ (r + A / r) / 2 := by
  obtain ⟨k0, k1, k2⟩ := hs
  have h1 : 2 * s - r ≤ A / r := by
    refine (Int.le_ediv_iff_mul_le h0).2 ?_
    have e : (r - s) * (r - s) = r * r - r * s - (s * r - s * s) := by rw [Int.sub_mul, Int.mul_sub, Int.mul_sub]
    have e2 : 0 ≤ (r - s) * (r - s) := Int.mul_nonneg (by omega) (by omega)
    have e3 : (2 * s - r) * r = 2 * (s * r) - r * r := by rw [Int.sub_mul, Int.mul_assoc]
    have e4 : r * s = s * r := Int.mul_comm _ _
    omega
  omega
theorem newton_stop {A s r : Int} (hs : IsRoot A s) (hr : s ≤ r) (h0 : 0 < r) (h : r ≤ (r + A / r) / 2) : r = s := by
  obtain ⟨k0, k1, k2⟩ := hs
  by_cases e : r = s
  · exact e
  · exfalso
    have h1 : r ≤ A / r := by omega
    have h2 : r * r ≤ A := (Int.le_ediv_iff_mul_le h0).1 h1
    have h3 : (s + 1) * (s + 1) ≤ r * r := Int.mul_le_mul (by omega) (by omega) (by omega) (by omega)
    omega
theorem root_pos {A s : Int} (hs : IsRoot A s) (hA : 0 < A) : 0 < s := by
  obtain ⟨k0, k1, k2⟩ := hs
  by_cases e : s = 0
  · subst e; simp at k2; omega
  · omega
theorem bits_lt {z : Int} (h0 : 0 < z) : z < 2 ^ bitsZ z := by
  obtain ⟨Z, rfl⟩ := Int.eq_ofNat_of_zero_le (Int.le_of_lt h0)
  have hz : (Z : Int) ≠ 0 := by omega
  rw [bitsZ, if_neg hz, Int.toNat_natCast]
  have := Nat.lt_log2_self (n := Z)
  have e : ((2 ^ (Nat.log2 Z + 1) : Nat) : Int) = (2 : Int) ^ (Nat.log2 Z + 1) := by simp
  omega
theorem bits_le {z : Int} (h0 : 0 < z) : 2 ^ (bitsZ z - 1) ≤ z := by
  obtain ⟨Z, rfl⟩ := Int.eq_ofNat_of_zero_le (Int.le_of_lt h0)
  have hz : (Z : Int) ≠ 0 := by omega
  rw [bitsZ, if_neg hz, Int.toNat_natCast, Nat.add_sub_cancel]
  have := Nat.log2_self_le (n := Z) (by omega)
  have e : ((2 ^ Nat.log2 Z : Nat) : Int) = (2 : Int) ^ Nat.log2 Z := by simp
  omega
theorem pow2_mono {m n : Nat} (h : m ≤ n) : (2 : Int) ^ m ≤ 2 ^ n := by
  have := Nat.pow_le_pow_right (n := 2) (by decide) h
  have e1 : ((2 ^ m : Nat) : Int) = (2 : Int) ^ m := by simp
  have e2 : ((2 ^ n : Nat) : Int) = (2 : Int) ^ n := by simp
  omega
theorem root_le_start {A s : Int} (hs : IsRoot A s) (hA : 0 < A) : s ≤ 2 ^ ((bitsZ A + 1) / 2) := by
  obtain ⟨k0, k1, k2⟩ := hs
  by_cases e : s ≤ 2 ^ ((bitsZ A + 1) / 2)
  · exact e
  · exfalso
    have h1 := bits_lt hA
    have h2 : (2 : Int) ^ bitsZ A ≤ 2 ^ ((bitsZ A + 1) / 2) * 2 ^ ((bitsZ A + 1) / 2) := by
      rw [← Int.pow_add]; exact pow2_mono (by omega)
    have h3 : (2 : Int) ^ ((bitsZ A + 1) / 2) * 2 ^ ((bitsZ A + 1) / 2) ≤ s * s := Int.mul_le_mul (by omega) (by omega) (Int.le_of_lt (Int.pow_pos (by decide))) (by omega)
    omega
theorem bitsZ_pos {z : Int} (h0 : 0 < z) : 0 < bitsZ z := by
  rw [bitsZ, if_neg (by omega)]; omega
theorem bits_words {a : List Int} (hd : Wd a) (h0 : 0 < wv a) : bitsZ (wv a) ≤ a.length * 32 := by
  have h1 := bits_le h0
  have h2 := (wv_range hd).2
  rw [pow32] at h2
  have h3 : bitsZ (wv a) - 1 < a.length * 32 := by
    by_cases e : bitsZ (wv a) - 1 < a.length * 32
    · exact e
    · have := pow2_mono (m := a.length * 32) (n := bitsZ (wv a) - 1) (by omega)
      omega
  have := bitsZ_pos h0
  omega
def RootPost (w : World) (A : Int) (e : Ending) (w' : World) : Prop := ∃ v s, e = .returned v ∧ IsNat w' v s ∧ IsRoot A s ∧ Below w.heap.size w w'
end Go.Proofs.YtboinjkeaffboaaDoor
