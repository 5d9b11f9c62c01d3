/- Layer 13: the program's number, has, join, split. -/
import Derived.Test.YtgbeedjcliajfaaKeya
import Derived.Test.YtgbeedjcliajfaaSchk
namespace Go.Proofs.Ytgbeedjcliajfaa
set_option maxRecDepth 100000
open Go.RowKit
set_option linter.unusedVariables false
/-- Why a set of a schema has no keys: the schema is not right, or it is no set of its dimensions; 0: it has. -/
def numE (S : Sc) (m : Int) : Nat := if checkL S = 0 then if m ≤ fullL S.ds then 0 else 11 else 1
theorem num_yes {S : Sc} {m : Int} (h : numE S m = 0) : checkL S = 0 ∧ m ≤ fullL S.ds := by
  unfold numE at h
  split at h
  · rename_i h1
    split at h
    · rename_i h2; exact ⟨h1, h2⟩
    · cases h
  · cases h
theorem number_any (w : World) (D I M V : Value) (S : Sc) (m : Int) (h : Sch4 w D I M V S) (hw : SWf S) (m0 : 0 ≤ m) (m1 : m ≤ 4294967295) :
    Calls Try.prog 22 #[SchV D I M V, .int .u32 m] w fun e w' => e = .returned (.tuple #[.int .u64 (if numE S m = 0 then keysL S.ds m S.ds.length else 0), .int .i64 (numE S m)]) ∧ Below w.heap.size w w' := by
  have HB0 := Lib.hid (below_one w (SchO D I M V))
  have HX := Lib.hid (box_new w D I M V)
  have HK := Lib.hid (fun w1 (hb : Below w.heap.size w w1) => keys_any w1 D I M V S m (h.below hb) hw m0 m1)
  have HC := Lib.hid (fun w1 (hb : Below w.heap.size w w1) => check_any w1 D I M V S (h.below hb) hw)
  obtain ⟨⟨a, c, rfl⟩, ⟨a2, c2, rfl⟩, ⟨a3, c3, rfl⟩, a4, c4, rfl⟩ := h.slices
  clear h hw
  by_cases hx : checkL S = 0 ∧ m ≤ fullL S.ds
  · have hn : numE S m = 0 := by unfold numE; rw [if_pos hx.1, if_pos hx.2]
    rw [if_pos hx, decide_eq_true hx] at HK
    rw [hn, if_pos rfl]
    generalize keysL S.ds m S.ds.length = ky at *
    clear hx hn HC
    go_enter Try.func22, Try.ntmps22
    go_wp2_with fail
    refine (HK.out _ HB0.out).mono ?_; rintro e w1 ⟨rfl, hb⟩
    have HB1 := Lib.hid (below_then HB0.out hb)
    clear hb
    go_wp2_with fail
    exact bodyPost_ret (v := .tuple #[.int .u64 ky, .int .i64 0]) (by simp [results, Try.results22, go_sem]) rfl ⟨rfl, HB1.out⟩
  · rw [if_neg hx, decide_eq_false hx] at HK
    have hk : checkL S = 0 ∧ numE S m = 11 ∨ ((checkL S : Int) != 0) = true ∧ numE S m = 1 := by
      unfold numE
      by_cases h1 : checkL S = 0
      · rw [if_pos h1, if_neg (fun h2 => hx ⟨h1, h2⟩)]; exact .inl ⟨h1, rfl⟩
      · rw [if_neg h1]; exact .inr ⟨by simp; omega, rfl⟩
    clear hx
    rcases hk with ⟨h1, h2⟩ | ⟨h1, h2⟩
    · rw [h1] at HC
      rw [h2, if_neg (by decide)]
      clear h1 h2
      go_enter Try.func22, Try.ntmps22
      go_wp2_with fail
      refine (HK.out _ HB0.out).mono ?_; rintro e w1 ⟨rfl, hb⟩
      have HB1 := Lib.hid (below_then HB0.out hb)
      obtain ⟨x0, x1, x2, x3⟩ := (HX.out.below hb).reads
      clear hb
      go_wp2_with fail
      refine (HC.out _ HB1.out).mono ?_; rintro e w2 ⟨rfl, hb⟩
      have HB2 := Lib.hid (below_then HB1.out hb)
      clear hb
      go_wp2_with fail
      exact bodyPost_ret (v := .tuple #[.int .u64 0, .int .i64 11]) (by simp [results, Try.results22, go_sem]) rfl ⟨rfl, HB2.out⟩
    · rw [h2, if_neg (by decide)]
      generalize (checkL S : Int) = ck at *
      clear h2
      go_enter Try.func22, Try.ntmps22
      go_wp2_with fail
      refine (HK.out _ HB0.out).mono ?_; rintro e w1 ⟨rfl, hb⟩
      have HB1 := Lib.hid (below_then HB0.out hb)
      obtain ⟨x0, x1, x2, x3⟩ := (HX.out.below hb).reads
      clear hb
      go_wp2_with fail
      refine (HC.out _ HB1.out).mono ?_; rintro e w2 ⟨rfl, hb⟩
      have HB2 := Lib.hid (below_then HB1.out hb)
      clear hb
      go_wp2_with fail
      exact bodyPost_ret (v := .tuple #[.int .u64 0, .int .i64 1]) (by simp [results, Try.results22, go_sem]) rfl ⟨rfl, HB2.out⟩
theorem has_any (w : World) (m : Int) (n : Nat) (hn : n ≤ 31) (m0 : 0 ≤ m) (m1 : m ≤ 4294967295) :
    Calls Try.prog 23 #[.int .u32 m, .int .i64 n] w fun e w' => e = .returned (.bool (bitG m n)) ∧ w = w' := by
  have hb1 : (bits .and .u32 (m / 2 ^ n) 1 == 1) = bitG m n := by
    exact and_one32 (div_range m0 m1 n).1 (div_range m0 m1 n).2
  have HE := Lib.hid hb1
  clear hb1
  go_enter Try.func23, Try.ntmps23
  go_wp2_with fail
  go_ret
  exact ⟨congrArg (fun b => Ending.returned (.bool b)) HE.out, rfl⟩
/-- The codes of a list, by number. -/
def cz (l : List Int) (k : Nat) : Int := l.getD k 0
theorem key_step {ds : List (ByteArray × Int)} {c : Nat → Int} {m : Int} (hz : sizB ds = true) (hc : InG (dz ds) c (bitG m) ds.length) : ∀ k, k ≤ ds.length → 0 ≤ keyG (dz ds) c (bitG m) k ∧ keyG (dz ds) c (bitG m) k ≤ 1099511627776 := fun k hk => by
  have h1 := keyG_range (n := k) (fun j hj => sizes_one hz j (by omega)) (fun j hj hp => hc j (by omega) hp)
  have h2 := keys_range m hz k hk
  have h3 := prod_pos hz k hk
  rw [← keys_num] at h1
  omega
set_option maxHeartbeats 4000000 in
theorem join_any (w : World) (D u : Value) (ds : List (ByteArray × Int)) (m : Int) (l : List Int) (h : Dims w D ds) (hu : Ints .i64 w u l) (hn : ds.length ≤ 31) (hl : l.length = ds.length) (hz : sizB ds = true) (hc : InG (dz ds) (cz l) (bitG m) ds.length) (m0 : 0 ≤ m) (m1 : m ≤ 4294967295) :
    Calls Try.prog 24 #[D, .int .u32 m, u] w fun e w' => e = .returned (.int .u64 (keyG (dz ds) (cz l) (bitG m) ds.length)) ∧ Below w.heap.size w w' := by
  obtain ⟨a, cap, rfl, h1, h2, h3⟩ := h
  obtain ⟨pu, cu, rfl, hcu, -⟩ := id hu
  have HU := Lib.hid hu
  have HC := Lib.hid h3
  have HI := Lib.hid hc
  have HKn := Lib.hid (fun k => show keyG (dz ds) (cz l) (bitG m) (k + 1) = if bitG m k = true then keyG (dz ds) (cz l) (bitG m) k * dz ds k + cz l k else keyG (dz ds) (cz l) (bitG m) k from rfl)
  have HR := Lib.hid (key_step hz hc)
  have HZ := Lib.hid (fun k (hk : k < ds.length) => siz_get hz hk)
  have HH := Lib.hid (fun w k hk => has_any w m k hk m0 m1)
  rw [hl]
  clear hu h3 hc hz
  go_enter Try.func24, Try.ntmps24
  go_wp2_with fail
  go_loopw [7, 12] (fun pv i wr => ∃ k : Nat, k ≤ ds.length ∧ i = .int .i64 k ∧ (∃ p : Int, pv = .int .u64 p ∧ 0 ≤ p ∧ p ≤ 1099511627776 ∧ Hid (p = keyG (dz ds) (cz l) (bitG m) k)) ∧ Hid (Below w.heap.size w wr)) (fun _ i _ => ds.length - (intOf i).toNat)
  case atStart => exact ⟨0, Nat.zero_le _, rfl, ⟨0, rfl, by decide, by decide, Lib.hid rfl⟩, Lib.hid (Below.refl _ _)⟩
  case round =>
    obtain ⟨k, hk, rfl, ⟨p, rfl, hp0, hp1, HE⟩, HB⟩ := hrel
    by_cases hlk : k < ds.length
    · rcases HC.out with h3 | ⟨b, off, rfl, hlt, hcell⟩
      · rw [h3] at hlk; simp at hlk
      obtain ⟨c0, c1⟩ := hcell k hlk
      have c0 : wr.cell? ⟨b, off + k * 2, none⟩ = _ := (HB.out.cell (p := ⟨b, off + k * 2, none⟩) hlt).trans c0
      have c1 : wr.cell? ⟨b, off + k * 2 + 1, none⟩ = _ := (HB.out.cell (p := ⟨b, off + k * 2 + 1, none⟩) hlt).trans c1
      obtain ⟨b2, o2, hp2, hb2, hc2⟩ := HU.out.cell (i := k) (by omega)
      subst hp2
      have hc2 := cell_later HB.out hc2
      have hc2 : wr.cell? ⟨b2, o2 + k, none⟩ = some (.int .i64 (cz l k)) := hc2
      have HKk := Lib.hid (HKn.out k)
      have hz := HZ.out k hlk
      have hr := HR.out (k + 1) (by omega)
      have hI := HI.out k hlk
      have hBs := HB.out.size
      have HB1 := Lib.hid (HB.out.alloc hBs (.cells #[.string (dn ds k), .int .i64 (dz ds k)] 40))
      have HHk := Lib.hid (fun w => HH.out w k (by omega))
      have hle : Hid (k + 1 ≤ ds.length) := Lib.hid (by omega)
      rw [← HE.out] at HKk
      generalize dn ds k = x at *
      generalize dz ds k = z at *
      generalize cz l k = y at *
      clear hcell
      by_cases hbit : bitG m k = true
      · obtain ⟨y0, y1⟩ := hI hbit
        rw [hbit] at HHk
        rw [if_pos hbit] at HKk
        have hpz : 0 ≤ p * z := Int.mul_nonneg hp0 (by omega)
        rw [HKk.out] at hr
        have i1 : IntKind.u64.wrap z = z := by rw [IntKind.wrap_u64]; omega
        have i2 : IntKind.u64.wrap (p * z) = p * z := by rw [IntKind.wrap_u64]; omega
        have i3 : IntKind.u64.wrap y = y := by rw [IntKind.wrap_u64]; omega
        have i4 : IntKind.u64.wrap (p * z + y) = p * z + y := by rw [IntKind.wrap_u64]; omega
        have HE3 := Lib.hid hr
        have hb3 := HB.out.size
        have hd2 := cell_later (below_one wr (.cells #[.string x, .int .i64 z] 40)) hc2
        clear hr hz hpz hI hbit y0 y1
        go_wp2_with fail
        refine (HHk.out _).mono ?_; rintro e w1 ⟨rfl, rfl⟩
        go_upto_region 6 with fail
        go_quiet (fail)
        have HB2 := Lib.hid (below_drewN HB1.out nq)
        go_wp2
        go_roundw
        case rel => exact ⟨k + 1, hle.out, by go_num, ⟨p * z + y, rfl, HE3.out.1, HE3.out.2, Lib.hid HKk.out.symm⟩, HB2⟩
        case measure => simp [intOf]; omega
      · rw [eq_false_of_ne_true hbit] at HHk
        rw [if_neg hbit] at HKk
        clear hr hz hI hbit hc2
        go_wp2_with fail
        refine (HHk.out _).mono ?_; rintro e w1 ⟨rfl, rfl⟩
        go_wp2_with fail
        go_roundw
        case rel => exact ⟨k + 1, hle.out, by go_num, ⟨p, rfl, hp0, hp1, Lib.hid HKk.out.symm⟩, HB1⟩
        case measure => simp [intOf]; omega
    · have : k = ds.length := by omega
      subst this
      have HE2 := Lib.hid HE.out
      clear HE
      go_wp2_with fail
      go_ret
      rw [HE2.out]
      exact ⟨rfl, HB.out⟩
end Go.Proofs.Ytgbeedjcliajfaa
