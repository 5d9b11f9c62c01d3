/- Layer 18: the program's Choose. -/
import Derived.Test.YtifbmdophoemjaaAdve
namespace Go.Proofs.Ytifbmdophoemjaa
set_option maxRecDepth 100000
open Go.RowKit
set_option linter.unusedVariables false
theorem wf_i18 {x : Int} (h : (Lit.int .i64 x).wf = true) : -9223372036854775808 ≤ x ∧ x ≤ 9223372036854775807 := by
  simp [Lit.wf, IntKind.min, IntKind.max, IntKind.signed, IntKind.bits] at h
  omega
theorem UOwn.grown {w w' : World} {B base : Nat} {v : Value} {l : List Nat} (h : UOwn w base v l) (hg : w.grownBy w' (some B)) (hB : B < base) : UOwn w' base v l := by
  obtain ⟨h1, h⟩ := h
  rcases h with ⟨rfl, he⟩ | ⟨g, cap, cur, rfl, hbase, hh, r⟩
  · exact ⟨h1, .inl ⟨rfl, he⟩⟩
  · exact ⟨h1, .inr ⟨g, cap, cur, rfl, hbase, (hg.block g (Array.getElem?_eq_some_iff.1 hh).1 (fun e => by have := Option.some.inj e; omega)).trans hh, r⟩⟩
theorem TabR.grown {w w' : World} {B base : Nat} {s : List Int} {vs l : List Nat} {v : Value} (h : TabR w B s vs) (ho : UOwn w base v l) (hB : B < base) (hg : w.grownBy w' v.ownBlock) : TabR w' B s vs := by
  obtain ⟨L, h1, h2⟩ := h
  refine ⟨L, (hg.block B (Array.getElem?_eq_some_iff.1 h1).1 (fun e => ?_)).trans h1, h2⟩
  have := (ho.lt B e.symm).1
  omega
def ChoP (w : World) (d : Int) (s : List Int) (k : Int) (e : Ending) (w' : World) : Prop :=
  ∃ v, e = .returned v ∧ ((checkN d s [] = 0 ∧ ∃ u, v = .tuple #[u, .int .i64 0] ∧ Msk w' u (choN s k.toNat)) ∨ (¬ checkN d s [] = 0 ∧ v = .tuple #[.slice none 0 0, .int .i64 (checkN d s [])])) ∧ Below w.heap.size w w'
set_option maxHeartbeats 8000000 in
theorem pchoose_any (w : World) (d k : Int) (sv : Value) (s : List Int) (hd : (Lit.int .i64 d).wf = true) (hk : (Lit.int .i64 k).wf = true) (hs : Szs w sv s) (hl : s.length ≤ 1000) :
    Calls Try.prog 11 #[.int .i64 d, sv, .int .i64 k] w (ChoP w d s k) := by
  have HCk := Lib.hid (pcheck_any w d sv (.slice none 0 0) s [] hd hs ⟨none, 0, rfl, Nat.le_refl _, .inl rfl⟩ Bd.nil hl (by decide))
  have HS := Lib.hid hs
  unfold ChoP
  by_cases hc : checkN d s [] = 0
  rotate_left
  · have hce := Lib.hid hc
    obtain ⟨q, qc, rfl⟩ := hs.len
    generalize checkN d s [] = C at *
    have hc' : (C != 0) = true := by rw [bne_iff_ne]; exact hc
    clear hs hc
    go_enter Try.func11, Try.ntmps11
    go_wp2_with fail
    refine HCk.out.mono ?_; rintro e w1 ⟨rfl, rfl⟩
    go_wp2_with fail
    go_ret2
    exact ⟨_, rfl, .inr ⟨hce.out, rfl⟩, Below.refl _ _⟩
  · obtain ⟨hw, -⟩ := check_ok hc
    have HCe := Lib.hid hc
    obtain ⟨m, rfl, hk1, hk6, hlen, hok⟩ := wrong_ok hw
    have hp := pow64 hk6
    have h64 : s.length ≤ 64 := by omega
    have h0 : 0 < s.length := by omega
    rw [hc] at HCk
    have HB := Lib.hid (pbase_any w sv s hs h0 hl)
    have HI := Lib.hid (fun j => cho_is s j)
    have HLn := Lib.hid (fun j => cho_len s j)
    have HA := Lib.hid (fun wr j v (h : TabR wr w.heap.size s (choN s j)) (hv : v < s.length) => padd_any wr w.heap.size s (choN s j) v h hv h64)
    have HBe := Lib.hid (fun wr j (h : TabR wr w.heap.size s (choN s j)) (hb : Below w.heap.size w wr) => pbest_any wr w.heap.size sv s (choN s j) h (hs.below hb) hok (cho_is s j).2.1 h64)
    have HN := Lib.hid (fun j h => @cho_next s j h)
    have HSt := Lib.hid (fun j h => (@step_new s (choN s j) h).1)
    have HEn := Lib.hid (fun j k h => @cho_end s j k h)
    have H0 := Lib.hid (show choN s 0 = [] from rfl)
    have hkw := wf_i18 hk
    obtain ⟨q, qc, rfl⟩ := hs.len
    clear hs hc hw hok hlen hp hk1 hk6 hd hk
    go_enter Try.func11, Try.ntmps11
    go_wp2_with fail
    refine HCk.out.mono ?_; rintro e w1 ⟨rfl, rfl⟩
    go_wp2_with fail
    refine HB.out.mono ?_; rintro e w2 ⟨⟨rfl, ht⟩, hb2⟩
    have HTb := Lib.hid ht
    have HB2 := Lib.hid hb2
    have HO2 := Lib.hid (UOwn.nil w2 (w1.heap.size + 1))
    have HZ2 := Lib.hid (show w1.heap.size < w2.heap.size from by obtain ⟨L, h1, -⟩ := ht; exact (Array.getElem?_eq_some_iff.1 h1).1)
    clear ht hb2 HB HCk
    go_wp2_with fail
    go_loopw [22, 10] (fun iv ov wr => ∃ (j : Nat) (pa : Option Addr) (pn pc : Nat), j ≤ k.toNat ∧ iv = .int .i64 j ∧ ov = .slice pa pn pc ∧ Hid (UOwn wr (w1.heap.size + 1) ov (choN s j)) ∧ Hid (TabR wr w1.heap.size s (choN s j)) ∧ Hid (w1.heap.size < wr.heap.size) ∧ Hid (Below w1.heap.size w1 wr)) (fun iv _ _ => k.toNat - (intOf iv).toNat)
    case atStart => exact ⟨0, _, _, _, Nat.zero_le _, rfl, rfl, by rw [H0.out]; exact HO2, Lib.hid (by rw [H0.out]; exact HTb.out), HZ2, HB2⟩
    case round =>
      obtain ⟨j, pa, pn, pc, hj, rfl, rfl, HO, HT, HZ, HW⟩ := hrel
      clear HTb HB2 HO2 HZ2
      by_cases hlt : j < k.toNat
      · have hlt' : (j : Int) < k := by omega
        have HBj := Lib.hid (HBe.out wr j HT.out HW.out)
        by_cases hz : (stepN s (choN s j)).2 = 0
        · have HR := Lib.hid (HEn.out j k.toNat hz (by omega))
          have hz' : ((stepN s (choN s j)).2 == 0) = true := by rw [beq_iff_eq]; exact hz
          clear HN HSt HEn HA HBe HT HI HLn hz
          go_wp2_with fail
          refine HBj.out.mono ?_; rintro e w3 ⟨rfl, hd⟩
          have HM := Lib.hid (HO.out.msk.below hd.below)
          have HB3 := Lib.hid (below_then HW.out hd.below)
          clear hd HBj HO HW
          go_wp2_with fail
          go_ret2
          exact ⟨_, rfl, .inl ⟨HCe.out, _, rfl, by rw [HR.out]; exact HM.out⟩, HB3.out⟩
        · have HNj := Lib.hid (HN.out j hz)
          have hv := HSt.out j hz
          have hz' : ((stepN s (choN s j)).2 == 0) = false := by rw [beq_eq_false_iff_ne]; exact hz
          have HAj := Lib.hid (fun wr h => HA.out wr j (stepN s (choN s j)).1 h hv)
          have hll := HLn.out j
          clear HN HSt HEn HA HBe HI HLn hz
          generalize (stepN s (choN s j)).1 = x at *
          generalize (stepN s (choN s j)).2 = y at *
          have hv' : (x : Int) < (s.length : Int) := by omega
          go_wp2_with fail
          refine HBj.out.mono ?_; rintro e w3 ⟨rfl, hd⟩
          have HO3 := Lib.hid (HO.out.below hd.below)
          have HT3 := Lib.hid (HT.out.keep hd.below)
          have HW3 := Lib.hid (below_then HW.out hd.below)
          have HZ3 := Lib.hid (Nat.lt_of_lt_of_le HZ.out hd.below.size)
          obtain ⟨b1, off1, rfl, -, hc1⟩ := (HS.out.below HW3.out).cell hv
          have HA3 := Lib.hid (HAj.out w3 HT3.out)
          clear hd HBj HO HT HW HZ HAj
          generalize s.getD x 0 = z at *
          go_wp2_with fail
          refine HA3.out.mono ?_; rintro e w4 ⟨rfl, ht, hg⟩
          have HO4 := Lib.hid (HO3.out.grown hg (Nat.lt_succ_self _))
          have HT4 := Lib.hid (show TabR w4 w1.heap.size s (choN s (j + 1)) from by rw [HNj.out]; exact ht)
          have HW4 := Lib.hid (show Below w1.heap.size w1 w4 from HW3.out.grown hg HW3.out.size (fun k hk => by have e : w1.heap.size = k := Option.some.inj hk; omega))
          have HZ4 := Lib.hid (Nat.lt_of_lt_of_le HZ3.out hg.size)
          clear ht hg HA3 HO3 HT3 HW3 HZ3 hc1
          go_wp2_with (refine wpList_app17 _ (by rfl) _ _ (by rfl) (w1.heap.size + 1) _ _ (choN s j) [x] (by rfl) (by rfl) (HO4.out.alloc _) (one17 w4 x) (by simp; omega) (by have := HZ4.out; simp; omega) ?_; intro v6 w6 hown6 hg6; have HO6 := Lib.hid hown6; have HT6 := Lib.hid ((HT4.out.keep (below_one w4 _)).grown (HO4.out.alloc _) (Nat.lt_succ_self _) hg6); have HW6 := Lib.hid ((HW4.out.alloc HW4.out.size _).grown hg6 (by have := HW4.out.size; simp; omega) (fun j hj => by have := (HO4.out.lt j hj).1; omega)); have HZ6 := Lib.hid (Nat.lt_of_lt_of_le HZ4.out (Nat.le_trans (below_one w4 (.cells #[.int .u32 (x : Int)] 29)).size hg6.size)); obtain ⟨p6, n6, c6, rfl⟩ := UOwn.shape hown6; clear hown6 hg6)
          go_roundw
          case rel => exact ⟨j + 1, _, _, _, by omega, by go_num, rfl, by rw [HNj.out]; exact HO6, HT6, HZ6, HW6⟩
          case measure => simp [intOf]; omega
      · have hR : j = k.toNat := by omega
        have hlt' : ¬ (j : Int) < k := by omega
        subst hR
        clear HN HSt HEn HA HBe HI HLn
        go_wp2_with fail
        go_ret2
        exact ⟨_, rfl, .inl ⟨HCe.out, _, rfl, HO.out.msk⟩, HW.out⟩
end Go.Proofs.Ytifbmdophoemjaa
