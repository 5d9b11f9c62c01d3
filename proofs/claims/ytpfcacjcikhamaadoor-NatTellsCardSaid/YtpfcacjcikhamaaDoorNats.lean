/- What appendDigit and Read of package nat return. -/
import Derived.Test.YtpfcacjcikhamaaDoorNatq
import Derived.WalkSpells
namespace Go.Proofs.YtpfcacjcikhamaaDoor
set_option maxRecDepth 100000
open Go.RowKit
set_option linter.unusedVariables false
def TenRel (a : List Int) (d : Int) (i : Nat) (out : List Int) (c : Int) : Prop :=
  wvN a i * 10 + d = wvN out i + 4294967296 ^ i * c ∧ Wd out ∧ out.length = a.length ∧ 0 ≤ c ∧ c ≤ 9 ∧ ∀ j, i ≤ j → out.getD j 0 = a.getD j 0
theorem TenRel.start {a : List Int} {d : Int} (ha : Wd a) (d0 : 0 ≤ d) (d1 : d ≤ 9) : TenRel a d 0 a d := ⟨by simp [wvN], ha, rfl, d0, d1, fun _ _ => rfl⟩
theorem TenRel.step {a out : List Int} {d c : Int} {i : Nat} (h : TenRel a d i out c) (hi : i < a.length) (x : Int) (hx : out.getD i 0 = x) :
    TenRel a d (i + 1) (out.set i ((c + x * 10) % 4294967296)) ((c + x * 10) / 4294967296) := by
  obtain ⟨h1, h2, h3, h4, h5, h6⟩ := h
  have hxr := h2.getD i
  have hxa := h6 i (Nat.le_refl _)
  rw [hx] at hxr hxa
  refine ⟨?_, h2.set (by omega) (by omega), by simpa using h3, by omega, by omega, fun j hj => ?_⟩
  · rw [wvN_set_succ (by omega), wvN, ← hxa, q_succ, Int.add_mul]
    have e := wcarry_step (c + x * 10) (4294967296 ^ i)
    have e1 : (c + x * 10) * 4294967296 ^ i = c * 4294967296 ^ i + x * 4294967296 ^ i * 10 := by rw [Int.add_mul, Int.mul_assoc, Int.mul_comm 10, ← Int.mul_assoc]
    have e2 : 4294967296 ^ i * 4294967296 * ((c + x * 10) / 4294967296) = (c + x * 10) / 4294967296 * (4294967296 ^ i * 4294967296) := Int.mul_comm _ _
    have e3 : 4294967296 ^ i * c = c * 4294967296 ^ i := Int.mul_comm _ _
    omega
  · rw [getD_set_other (by omega)]; exact h6 j (by omega)
theorem tidy_of_size {a : List Int} (hd : Wd a) (h : a ≠ [] → 4294967296 ^ (a.length - 1) ≤ wv a) : Tidy a := by
  by_cases hn : a = []
  · exact .inl hn
  · refine .inr fun h0 => ?_
    have hl : 0 < a.length := List.length_pos_iff.2 hn
    have h1 := h hn
    have h2 := (wvN_range hd (a.length - 1)).2
    have h3 : wv a = wvN a (a.length - 1) := by
      rw [wv, show a.length = (a.length - 1) + 1 from by omega, wvN, Nat.add_sub_cancel, h0]; simp
    omega
theorem TenRel.stop0 {a out : List Int} {d : Int} (h : TenRel a d a.length out 0) (hd : Wd a) (ht : Tidy a) (d0 : 0 ≤ d) : wv out = wv a * 10 + d ∧ Wd out ∧ Tidy out ∧ out.length = a.length := by
  obtain ⟨h1, h2, h3, h4, h5, h6⟩ := h
  have hv : wv out = wv a * 10 + d := by rw [← wvN_past out (n := a.length) (by omega)]; rw [wv]; omega
  refine ⟨hv, h2, tidy_of_size h2 (fun hn => ?_), h3⟩
  have hna : a ≠ [] := by intro e; subst e; exact hn (List.length_eq_zero_iff.1 h3)
  have h7 := ht.wsize hd hna
  have h8 := (wv_range hd).1
  rw [h3]; omega
theorem TenRel.stop1 {a out : List Int} {d c : Int} (h : TenRel a d a.length out c) (hc : c ≠ 0) : wv (out ++ [c]) = wv a * 10 + d ∧ Wd (out ++ [c]) ∧ Tidy (out ++ [c]) := by
  obtain ⟨h1, h2, h3, h4, h5, h6⟩ := h
  refine ⟨?_, h2.snoc h4 (by omega), .inr (by simp [List.getD]; exact hc)⟩
  rw [wv_snoc, ← wvN_past out (n := a.length) (by omega), h3, wv]
  have : c * 4294967296 ^ a.length = 4294967296 ^ a.length * c := Int.mul_comm _ _
  omega
def TenPost (B : Nat) (z : Int) (m : Nat) (w : World) (e : Ending) (w' : World) : Prop :=
  ∃ v a, e = .returned v ∧ w'.ownsRow B 31 1 v a.length (a.map (Value.int .u32)) ∧ Wd a ∧ Tidy a ∧ wv a = z ∧ a.length ≤ m ∧ Below B w w'
theorem room47w {n : Nat} (h : n ≤ 1099511627776) : (n + 1) * 4 ≤ 140737488355328 := by omega
set_option maxHeartbeats 1000000 in
theorem ten_nil (B : Nat) (d : Int) (w : World) (hB : B ≤ w.heap.size) (d0 : 0 ≤ d) (d1 : d ≤ 9) :
    Calls Tryd.prog 62 #[.slice none 0 0, .int .u32 d] w (TenPost B d 1 w) := by
  obtain ⟨i0, hi, hz0, hz1, hz2⟩ := info_parts Tryd.infoU32
  by_cases h0 : d = 0
  · subst h0
    go_enter Tryd.func62, Tryd.ntmps62
    go_wp2_with fail
    go_loop [5, 11] (fun c i => c = .int .u64 0 ∧ i = .int .i64 0) (fun _ _ => 0)
    case atStart => exact ⟨rfl, rfl⟩
    case round =>
      obtain ⟨rfl, rfl⟩ := hrel
      go_wp2_with fail
      go_ret
      exact ⟨_, [], rfl, World.ownsRow_nil _ _ _ _, Wd.nil, .inl rfl, rfl, by simp, Below.refl _ _⟩
  · go_enter Tryd.func62, Tryd.ntmps62
    go_wp2_with fail
    go_loop [5, 11] (fun c i => c = .int .u64 d ∧ i = .int .i64 0) (fun _ _ => 0)
    case atStart => exact ⟨rfl, rfl⟩
    case round =>
      obtain ⟨rfl, rfl⟩ := hrel
      have hown := Lib.hid (World.ownsRow_nil w B 31 1)
      go_wp2_with (at_builtin; refine wpList_append_own _ rfl _ _ 22 rfl B 31 i0 (.int .u32 0) 1 4 Tryd.underlying22 hi hz0 hz1 hz2 rfl (by decide) _ _ _ rfl (hown.out.alloc _) ⟨w.heap.size, 0, none⟩ 1 1 [.int .u32 d] rfl rfl (cell_one_new _ _ _) (one_int _ _) (room63 (by omega)) (room47w (by omega)) (by simp; omega) ?_; intro v' w1 hown' hgrow _)
      have hP := own_push (zs := []) rfl hB (Below.refl _ _) hown.out hown' hgrow
      go_ret
      exact ⟨v', [d], rfl, hP.1, by intro x hx; simp at hx; omega, .inr (by simpa using h0), by simp [wv, wvN], by simp, hP.2⟩
set_option maxHeartbeats 1000000 in
theorem ten_row (B g cap : Nat) (a : List Int) (d : Int) (w : World) (hr : WRow w B g cap a) (ha : Wd a) (ht : Tidy a) (la : a.length ≤ 1000000) (d0 : 0 ≤ d) (d1 : d ≤ 9) :
    Calls Tryd.prog 62 #[.slice (some ⟨g, 0, none⟩) a.length cap, .int .u32 d] w (TenPost B (wv a * 10 + d) (a.length + 1) w) := by
  obtain ⟨i0, hi, hz0, hz1, hz2⟩ := info_parts Tryd.infoU32
  have hg := hr.facts.1
  have hgs := hr.facts.2.1
  have hcap := hr.facts.2.2.1
  have HR := Lib.hid hr
  have HA := Lib.hid (And.intro ha ht)
  have hR0 := Lib.hid (TenRel.start ha d0 d1)
  clear hr ha ht
  go_enter Tryd.func62, Tryd.ntmps62
  go_wp2_with fail
  go_loopw [5, 11] (fun cy i wr => ∃ (k : Nat) (out : List Int) (c : Int), k ≤ a.length ∧ i = .int .i64 k ∧ cy = .int .u64 c ∧ 0 ≤ c ∧ c ≤ 9 ∧ Hid (TenRel a d k out c) ∧ Hid (WRow wr B g cap out ∧ Only g w wr)) (fun _ i _ => a.length - (intOf i).toNat)
  case atStart => exact ⟨0, a, d, Nat.zero_le _, rfl, rfl, d0, d1, hR0, Lib.hid ⟨HR.out, Only.refl _ _⟩⟩
  case round =>
    obtain ⟨k, out, c, hk, rfl, rfl, c0, c1, hO, hS⟩ := hrel
    clear hR0
    have hlen := Lib.hid hO.out.2.2.1
    by_cases hlt : k < a.length
    · obtain ⟨ho1, ho2⟩ := hS.out.1.facts.2.2.2.2 k (by have := hlen.out; omega)
      have hx := hO.out.2.1.getD k
      have hst := Lib.hid (fun (x : Int) (hx : out.getD k 0 = x) => hO.out.step hlt x hx)
      generalize out.getD k 0 = x at *
      have hst2 := Lib.hid (hst.out x rfl)
      have hSS := Lib.hid (fun (z : Int) => And.intro (hS.out.1.set k z) (hS.out.2.set k (.int .u32 z)))
      obtain ⟨x0, x1⟩ := hx
      clear hst hO hS
      go_wp2_with fail
      go_roundw
      case rel => exact ⟨k + 1, _, _, by omega, by go_num, rfl, by omega, by omega, hst2, Lib.hid (hSS.out _)⟩
      case measure => simp [intOf]; omega
    · obtain rfl : k = a.length := by omega
      by_cases h0 : c = 0
      · subst h0
        have hE := Lib.hid (hO.out.stop0 HA.out.1 HA.out.2 d0)
        clear hO
        have hq := hS.out.1
        have hl := hE.out.2.2.2
        go_wp2_with fail
        go_ret
        unfold WRow at hq
        rw [hl] at hq
        exact ⟨_, out, rfl, by rw [hl]; exact hq, hE.out.2.1, hE.out.2.2.1, hE.out.1, by omega, hS.out.2.below hg⟩
      · have hE := Lib.hid (hO.out.stop1 h0)
        clear hO
        have hq := hS.out.1
        have hl := Lib.hid hlen.out
        unfold WRow at hq
        have hown := Lib.hid hq
        have hown2 := hq
        rw [hl.out] at hown2
        have hown2 := Lib.hid hown2
        have hsz : B ≤ wr.heap.size := by have := hS.out.2.2.2.2.1; omega
        clear hq
        go_wp2_with (at_builtin; refine wpList_append_own _ rfl _ _ 22 rfl B 31 i0 (.int .u32 0) 1 4 Tryd.underlying22 hi hz0 hz1 hz2 rfl (by decide) _ _ _ rfl (hown2.out.alloc _) ⟨wr.heap.size, 0, none⟩ 1 1 [.int .u32 c] rfl rfl (cell_one_new _ _ _) (one_int _ _) (room63 (by omega)) (room47w (by omega)) (by simp; omega) ?_; intro v' w1 hown' hgrow _)
        have hP := own_push (zs := out) hl.out.symm hsz (hS.out.2.below hg) (by rw [hl.out]; exact hown2.out) hown' hgrow
        go_ret
        exact ⟨v', out ++ [c], rfl, hP.1, hE.out.2.1, hE.out.2.2, hE.out.1, by have := hl.out; simp; omega, hP.2⟩
theorem ten_any (B : Nat) (v : Value) (a : List Int) (d : Int) (w : World) (hB : B ≤ w.heap.size) (hr : w.ownsRow B 31 1 v a.length (a.map (Value.int .u32))) (ha : Wd a) (ht : Tidy a) (la : a.length ≤ 1000000) (d0 : 0 ≤ d) (d1 : d ≤ 9) :
    Calls Tryd.prog 62 #[v, .int .u32 d] w (TenPost B (wv a * 10 + d) (a.length + 1) w) := by
  rcases own_cases hr with ⟨rfl, rfl⟩ | ⟨g, cap, rfl, hr⟩
  · have := ten_nil B d w hB d0 d1
    simpa [wv_nil] using this
  · exact ten_row B g cap a d w hr ha ht la d0 d1
end Go.Proofs.YtpfcacjcikhamaaDoor
